/- Texts of one proof, one behind the other: MLA. -/
import Derived.Test.YtmahgfgndfcmpahB23
/- Walks: two rows of worlds put together (slices.symMergeCmpFunc). -/
namespace Go.Proofs.Ytmahgfgndfcmpah
open Go.RowKit Go.Sort

theorem rowW11 (l : List Value) (h0 : l.length = 11) : ∃ x0 x1 x2 x3 x4 x5 x6 x7 x8 x9 x10, l = [x0, x1, x2, x3, x4, x5, x6, x7, x8, x9, x10] := by
  obtain ⟨x0, l1, e0, h1⟩ := cons_lenM h0; obtain ⟨x1, l2, e1, h2⟩ := cons_lenM h1; obtain ⟨x2, l3, e2, h3⟩ := cons_lenM h2; obtain ⟨x3, l4, e3, h4⟩ := cons_lenM h3; obtain ⟨x4, l5, e4, h5⟩ := cons_lenM h4; obtain ⟨x5, l6, e5, h6⟩ := cons_lenM h5; obtain ⟨x6, l7, e6, h7⟩ := cons_lenM h6; obtain ⟨x7, l8, e7, h8⟩ := cons_lenM h7; obtain ⟨x8, l9, e8, h9⟩ := cons_lenM h8; obtain ⟨x9, l10, e9, h10⟩ := cons_lenM h9; obtain ⟨x10, l11, e10, h11⟩ := cons_lenM h10; have e11 : l11 = [] := List.length_eq_zero_iff.1 h11; subst e11 e10 e9 e8 e7 e6 e5 e4 e3 e2 e1 e0; exact ⟨x0, x1, x2, x3, x4, x5, x6, x7, x8, x9, x10, rfl⟩
theorem rowW12 (l : List Value) (h0 : l.length = 12) : ∃ x0 x1 x2 x3 x4 x5 x6 x7 x8 x9 x10 x11, l = [x0, x1, x2, x3, x4, x5, x6, x7, x8, x9, x10, x11] := by
  obtain ⟨x0, l1, e0, h1⟩ := cons_lenM h0; obtain ⟨x1, l2, e1, h2⟩ := cons_lenM h1; obtain ⟨x2, l3, e2, h3⟩ := cons_lenM h2; obtain ⟨x3, l4, e3, h4⟩ := cons_lenM h3; obtain ⟨x4, l5, e4, h5⟩ := cons_lenM h4; obtain ⟨x5, l6, e5, h6⟩ := cons_lenM h5; obtain ⟨x6, l7, e6, h7⟩ := cons_lenM h6; obtain ⟨x7, l8, e7, h8⟩ := cons_lenM h7; obtain ⟨x8, l9, e8, h9⟩ := cons_lenM h8; obtain ⟨x9, l10, e9, h10⟩ := cons_lenM h9; obtain ⟨x10, l11, e10, h11⟩ := cons_lenM h10; obtain ⟨x11, l12, e11, h12⟩ := cons_lenM h11; have e12 : l12 = [] := List.length_eq_zero_iff.1 h12; subst e12 e11 e10 e9 e8 e7 e6 e5 e4 e3 e2 e1 e0; exact ⟨x0, x1, x2, x3, x4, x5, x6, x7, x8, x9, x10, x11, rfl⟩
theorem rowW14 (l : List Value) (h0 : l.length = 14) : ∃ x0 x1 x2 x3 x4 x5 x6 x7 x8 x9 x10 x11 x12 x13, l = [x0, x1, x2, x3, x4, x5, x6, x7, x8, x9, x10, x11, x12, x13] := by
  obtain ⟨x0, l1, e0, h1⟩ := cons_lenM h0; obtain ⟨x1, l2, e1, h2⟩ := cons_lenM h1; obtain ⟨x2, l3, e2, h3⟩ := cons_lenM h2; obtain ⟨x3, l4, e3, h4⟩ := cons_lenM h3; obtain ⟨x4, l5, e4, h5⟩ := cons_lenM h4; obtain ⟨x5, l6, e5, h6⟩ := cons_lenM h5; obtain ⟨x6, l7, e6, h7⟩ := cons_lenM h6; obtain ⟨x7, l8, e7, h8⟩ := cons_lenM h7; obtain ⟨x8, l9, e8, h9⟩ := cons_lenM h8; obtain ⟨x9, l10, e9, h10⟩ := cons_lenM h9; obtain ⟨x10, l11, e10, h11⟩ := cons_lenM h10; obtain ⟨x11, l12, e11, h12⟩ := cons_lenM h11; obtain ⟨x12, l13, e12, h13⟩ := cons_lenM h12; obtain ⟨x13, l14, e13, h14⟩ := cons_lenM h13; have e14 : l14 = [] := List.length_eq_zero_iff.1 h14; subst e14 e13 e12 e11 e10 e9 e8 e7 e6 e5 e4 e3 e2 e1 e0; exact ⟨x0, x1, x2, x3, x4, x5, x6, x7, x8, x9, x10, x11, x12, x13, rfl⟩
def SymS (ps : List PartM) (g cap : Nat) (rest : List Value) (fuel : Nat) : Prop := ∀ (l : List Nat) (lo md hi : Nat) (w : World), l.length ≤ 100000 → l.length ≤ cap → lo < md → md < hi → hi ≤ l.length → hi - lo < fuel → SRow ps w g l rest →
  Calls Try.prog 71 #[.slice (some ⟨g, 0, none⟩) l.length cap, .int .i64 (lo : Nat), .int .i64 (md : Nat), .int .i64 (hi : Nat), .func (.func 52) #[] #[]] w fun e w' => SortP ps g l rest w e w'
set_option maxRecDepth 10000 in
set_option maxHeartbeats 16000000 in
theorem symm_one {ps : List PartM} (g cap : Nat) (rest : List Value) (fuel : Nat) (ih : SymS ps g cap rest fuel) (l : List Nat) (lo md hi : Nat) (w : World) (hl : l.length ≤ 100000) (hc : l.length ≤ cap) (h1 : lo < md) (h2 : md < hi) (h3 : hi ≤ l.length) (h4 : hi - lo < fuel + 1) (hr : SRow ps w g l rest) (hcase : md - lo = 1) :
    Calls Try.prog 71 #[.slice (some ⟨g, 0, none⟩) l.length cap, .int .i64 (lo : Nat), .int .i64 (md : Nat), .int .i64 (hi : Nat), .func (.func 52) #[] #[]] w fun e w' => SortP ps g l rest w e w' := by
  have HR : Hid (SRow ps w g l rest) := hr; (have HCm : Hid (∀ u v W, Calls Try.prog 52 #[WV ps u, WV ps v] W _) := fun u v W => cmpW_any ps u v W)
  have HRo : Hid (∀ (l1 : List Nat) (x y z : Nat) (W : World), l1.Perm l → x < y → y < z → z ≤ l.length → SRow ps W g l1 rest → Calls Try.prog 74 #[.slice (some ⟨g, 0, none⟩) l.length cap, .int .i64 (x : Nat), .int .i64 (y : Nat), .int .i64 (z : Nat), .func (.func 52) #[] #[]] W fun e w' => SortP ps g l1 rest W e w') := fun l1 x y z W hp q1 q2 q3 q4 => by
    (have := rotate_any (ps := ps) g cap (.func (.func 52) #[] #[]) rest l1 (by rw [hp.length_eq]; exact hl) (by rw [hp.length_eq]; exact hc) x y z q1 q2 (by rw [hp.length_eq]; exact q3) W q4)
    rwa [hp.length_eq] at this
  have HIH : Hid (∀ (l1 : List Nat) (x y z : Nat) (W : World), l1.Perm l → x < y → y < z → z ≤ l.length → z - x < fuel → SRow ps W g l1 rest → Calls Try.prog 71 #[.slice (some ⟨g, 0, none⟩) l.length cap, .int .i64 (x : Nat), .int .i64 (y : Nat), .int .i64 (z : Nat), .func (.func 52) #[] #[]] W fun e w' => SortP ps g l1 rest W e w') := fun l1 x y z W hp q1 q2 q3 q4 q5 => by
    (have := ih l1 x y z W (by rw [hp.length_eq]; exact hl) (by rw [hp.length_eq]; exact hc) q1 q2 (by rw [hp.length_eq]; exact q3) q4 q5)
    rwa [hp.length_eq] at this
  have hcf := worlds1_in; have HO : Hid (lo < md ∧ md < hi ∧ hi ≤ l.length ∧ l.length ≤ 100000 ∧ l.length ≤ cap ∧ hi - lo < fuel + 1) := ⟨h1, h2, h3, hl, hc, h4⟩; (have hlI : (l.length : Int) ≤ 100000 := by omega); (have hmI : (md : Int) ≤ 100000 := by omega); (have hhI9 : (hi : Int) ≤ 100000 := by omega); (have hloI : (lo : Int) ≤ 100000 := by omega); unfold WV at HCm; (have hml : (md : Int) - (lo : Int) = 1 := by omega); clear h1 h2 h3 h4 hl hc hr ih hcase
  go_enter Try.func71, Try.ntmps71
  go_wp2_with fail; clear hml
  go_loopg [10, 11] (hi - md) (fun gg c d wr => ∃ i j, gg = j - i ∧ c = .int .i64 (i : Nat) ∧ d = .int .i64 (j : Nat) ∧ Hid (md ≤ i ∧ i ≤ j ∧ j ≤ hi) ∧ Hid (Below w.heap.size w wr))
  case atStart => exact ⟨md, hi, rfl, by go_num, by go_num, by have := HO.out; show _ ∧ _; omega, Below.refl _ _⟩
  case round =>
    obtain ⟨i, j, hg, rfl, rfl, HIJ, HB⟩ := hrel; have HGk : Hid (gk = j - i) := hg; (have hiI : (i : Int) ≤ 100000 := by have := HIJ.out; have := HO.out; omega); (have hjI : (j : Int) ≤ 100000 := by have := HIJ.out; have := HO.out; omega); clear hg; by_cases hij : i < j
    · obtain ⟨hx, hhx⟩ : ∃ hx, hx = (i + j) / 2 := ⟨_, rfl⟩
      (have hhI : ((i : Int) + (j : Int)) / 2 = (hx : Int) := by omega); (have HX : Hid (i ≤ hx ∧ hx < j) := by show _ ∧ _; omega); (have hxI : (hx : Int) ≤ 100000 := by have := HX.out; omega)

      (obtain ⟨xa, hxa⟩ : ∃ x, l[hx]? = some x := ⟨_, List.getElem?_eq_getElem (by have := HO.out; have := HX.out; have := HIJ.out; omega)⟩); (obtain ⟨xb, hxb⟩ : ∃ x, l[lo]? = some x := ⟨_, List.getElem?_eq_getElem (by have := HO.out; have := HX.out; have := HIJ.out; omega)⟩); have HXa : Hid (l[hx]? = some xa) := hxa; have HXb : Hid (l[lo]? = some xb) := hxb; (have b1 : (hx : Int) < (l.length : Int) := by have := HO.out; have := HX.out; have := HIJ.out; omega); (have b2 : (lo : Int) < (l.length : Int) := by have := HO.out; have := HX.out; have := HIJ.out; omega); (have b3 : (hx : Int) < (cap : Int) := by have := HO.out; omega); (have b4 : (lo : Int) < (cap : Int) := by have := HO.out; omega); clear hxa hxb hhx; go_wp2_with fail; clear hij hhI; (refine wp_region_free (by kernel_rfl) [fun v _ => v = (.func (.func 52) #[] #[]), fun v _ => v = (.slice (some ⟨g, 0, none⟩) l.length cap), fun v _ => v = (.int .i64 (hx : Nat)), fun v _ => v = (.pointer (some ⟨g, hx * 3, none⟩)), fun v _ => v = (.agg #[.int .u64 (xa : Nat), .int .u64 (bm ps.length (wnB ps xa) : Nat), .int .u64 (bm ps.length (swB ps xa) : Nat)]), fun v _ => v = (.slice (some ⟨g, 0, none⟩) l.length cap), fun v _ => v = (.int .i64 (lo : Nat)), fun v _ => v = (.pointer (some ⟨g, lo * 3, none⟩)), fun v _ => v = (.agg #[.int .u64 (xb : Nat), .int .u64 (bm ps.length (wnB ps xb) : Nat), .int .u64 (bm ps.length (swB ps xb) : Nat)]), kInt, kBo] ?_ (by kernel_rfl) (by kernel_rfl) 220 rfl (by kernel_rfl) ?_ ?_)
      · intro p hp
        simp only [List.mem_cons, List.not_mem_nil, or_false] at hp
        rcases hp with rfl | rfl | rfl | rfl | rfl | rfl | rfl | rfl | rfl | rfl | rfl
        · exact fun _ _ _ h _ => h
        · exact fun _ _ _ h _ => h
        · exact fun _ _ _ h _ => h
        · exact fun _ _ _ h _ => h
        · exact fun _ _ _ h _ => h
        · exact fun _ _ _ h _ => h
        · exact fun _ _ _ h _ => h
        · exact fun _ _ _ h _ => h
        · exact fun _ _ _ h _ => h
        · exact kInt_stays
        · exact kBo_stays
      · refine ⟨?_, ?_, ?_, ?_, ?_, ?_, ?_, ?_, ?_, ?_, ?_, trivial⟩
        · intro a wx hB hold hdep K hK
          have t4 : a.tmps[4]? = some (.func (.func 52) #[] #[]) := hold.2.2 4 rfl; clear hold hdep; go_simp; exact hK.out _ _ rfl (Below.refl _ _)
        · intro a wx hB hold hdep K hK
          have t0 : a.tmps[0]? = some (.slice (some ⟨g, 0, none⟩) l.length cap) := hold.2.2 0 rfl; clear hold hdep; go_simp; exact hK.out _ _ rfl (Below.refl _ _)
        · intro a wx hB hold hdep K hK
          have t12 : a.tmps[12]? = some (.int .i64 (hx : Nat)) := hold.2.2 12 rfl; clear hold hdep; go_simp; exact hK.out _ _ rfl (Below.refl _ _)
        · intro a wx hB hold hdep K hK
          obtain ⟨v41, t41, p41⟩ := hdep 1 rfl _ 41 rfl rfl; have e41 : v41 = (.slice (some ⟨g, 0, none⟩) l.length cap) := p41; subst e41; obtain ⟨v42, t42, p42⟩ := hdep 2 rfl _ 42 rfl rfl; have e42 : v42 = (.int .i64 (hx : Nat)) := p42; subst e42; clear hold hdep; go_simp; exact hK.out _ _ rfl (Below.refl _ _)
        · intro a wx hB hold hdep K hK
          obtain ⟨v43, t43, p43⟩ := hdep 3 rfl _ 43 rfl rfl; have e43 : v43 = (.pointer (some ⟨g, hx * 3, none⟩)) := p43; subst e43; obtain ⟨q0, q1, q2, -⟩ := ((HR.out.up HB.out).up hB).cells HXa.out; clear hold hdep; go_simp; exact hK.out _ _ rfl (Below.refl _ _)
        · intro a wx hB hold hdep K hK
          have t0 : a.tmps[0]? = some (.slice (some ⟨g, 0, none⟩) l.length cap) := hold.2.2 0 rfl; clear hold hdep; go_simp; exact hK.out _ _ rfl (Below.refl _ _)
        · intro a wx hB hold hdep K hK
          have t1 : a.tmps[1]? = some (.int .i64 (lo : Nat)) := hold.2.2 1 rfl; clear hold hdep; go_simp; exact hK.out _ _ rfl (Below.refl _ _)
        · intro a wx hB hold hdep K hK
          obtain ⟨v45, t45, p45⟩ := hdep 5 rfl _ 45 rfl rfl; have e45 : v45 = (.slice (some ⟨g, 0, none⟩) l.length cap) := p45; subst e45; obtain ⟨v46, t46, p46⟩ := hdep 6 rfl _ 46 rfl rfl; have e46 : v46 = (.int .i64 (lo : Nat)) := p46; subst e46; clear hold hdep; go_simp; exact hK.out _ _ rfl (Below.refl _ _)
        · intro a wx hB hold hdep K hK
          obtain ⟨v47, t47, p47⟩ := hdep 7 rfl _ 47 rfl rfl; have e47 : v47 = (.pointer (some ⟨g, lo * 3, none⟩)) := p47; subst e47; obtain ⟨q0, q1, q2, -⟩ := ((HR.out.up HB.out).up hB).cells HXb.out; clear hold hdep; go_simp; exact hK.out _ _ rfl (Below.refl _ _)
        · intro a wx hB hold hdep K hK
          obtain ⟨v40, t40, p40⟩ := hdep 0 rfl _ 40 rfl rfl; have e40 : v40 = (.func (.func 52) #[] #[]) := p40; subst e40; obtain ⟨v44, t44, p44⟩ := hdep 4 rfl _ 44 rfl rfl; have e44 : v44 = (.agg #[.int .u64 (xa : Nat), .int .u64 (bm ps.length (wnB ps xa) : Nat), .int .u64 (bm ps.length (swB ps xa) : Nat)]) := p44; subst e44; obtain ⟨v48, t48, p48⟩ := hdep 8 rfl _ 48 rfl rfl; have e48 : v48 = (.agg #[.int .u64 (xb : Nat), .int .u64 (bm ps.length (wnB ps xb) : Nat), .int .u64 (bm ps.length (swB ps xb) : Nat)]) := p48; subst e48; have HW : Hid (Calls Try.prog 52 #[.agg #[.int .u64 (xa : Nat), .int .u64 (bm ps.length (wnB ps xa) : Nat), .int .u64 (bm ps.length (swB ps xa) : Nat)], .agg #[.int .u64 (xb : Nat), .int .u64 (bm ps.length (wnB ps xb) : Nat), .int .u64 (bm ps.length (swB ps xb) : Nat)]] wx _) := HCm.out xa xb wx; clear hold hdep; go_simp; refine HW.out.mono ?_; rintro _ w9 ⟨⟨c9, rfl⟩, hb9⟩; go_simp; exact hK.out _ _ ⟨_, rfl⟩ hb9
        · intro a wx hB hold hdep K hK
          obtain ⟨v49, t49, p49⟩ := hdep 9 rfl _ 49 rfl rfl; have P49 : Hid ((kInt) v49 wx) := p49; clear p49; obtain ⟨c9, rfl⟩ := P49.out; clear P49; clear hold hdep; go_simp; exact hK.out _ _ ⟨_, rfl⟩ (Below.refl _ _)
      · intro a wx hB hold hgot
        obtain ⟨vZ, tvZ, pvZ⟩ := hgot 10 _ 50 rfl rfl; obtain ⟨bz, rfl⟩ := pvZ; have HBx : Hid (Below wr.heap.size wr wx) := hB; obtain ⟨tm, df⟩ := a; (obtain ⟨ys, hys, htm, rfl⟩ := frame_mid2 40 11 (by kernel_rfl) (Nat.le_of_ble_eq_true rfl) hold); obtain ⟨x40, x41, x42, x43, x44, x45, x46, x47, x48, x49, x50, rfl⟩ := rowW11 ys hys; simp only [List.take_succ_cons, List.take_zero, List.drop_succ_cons, List.drop_zero, List.cons_append, List.nil_append] at htm; subst htm; obtain rfl : x50 = _ := someInjM tvZ; clear hys hold hgot tvZ hB; have HB2 : Hid (Below w.heap.size w wx) := below_join HB.out HBx.out; clear HBx HXa HXb
        cases bz
        · go_wp2_with fail
          go_roundg (hx - i)
          case measure => have := HGk.out; have := HX.out; omega
          case rel => exact ⟨i, hx, rfl, by go_num, by go_num, by have := HX.out; have := HIJ.out; show _ ∧ _; omega, HB2⟩
        · go_wp2_with fail
          go_roundg (j - (hx + 1))
          case measure => have := HGk.out; have := HX.out; omega
          case rel => exact ⟨hx + 1, j, rfl, by go_num, by go_num, by have := HX.out; have := HIJ.out; show _ ∧ _; omega, HB2⟩
    · have hij2 : decide (i < j) = false := decide_eq_false hij
      (have HE : Hid (i = j) := by have := HIJ.out; show _ = _; omega); clear hij; go_wp2_with fail; clear hij2; obtain ⟨i1, hi1⟩ : ∃ i1, i1 = i - 1 := ⟨_, rfl⟩; (have hi1I : (i : Int) - 1 = (i1 : Int) := by have := HO.out; have := HIJ.out; omega); (have HLi : Hid (i1 + 1 = i ∧ lo ≤ i1) := by have := HO.out; have := HIJ.out; show _ ∧ _; omega); (have hi1b : (i1 : Int) ≤ 100000 := by have := HLi.out; omega); clear hi1
      go_loopg [13] (i1 - lo) (fun gg c wr => ∃ k l1, gg = i1 - k ∧ c = .int .i64 (k : Nat) ∧ Hid (lo ≤ k ∧ (k ≤ i1 ∨ k = lo)) ∧ Hid (l1.Perm l) ∧ Hid (SRow ps wr g l1 rest) ∧ Hid (Kept (fun b => b ≠ g) w wr))
      case atStart => exact ⟨lo, l, rfl, by go_num, by have := HO.out; have := HIJ.out; have := HE.out; have := HLi.out; show _ ∧ _; omega, List.Perm.refl _, HR.out.up HB.out, Kept.belowK (Kept.refl _ _) HB.out⟩
      case round =>
        obtain ⟨k, l1, hg, rfl, HK0, HP1, HR1, HK1⟩ := hrel; have HGk2 : Hid (gk = i1 - k) := hg; (have hkI : (k : Int) ≤ 100000 := by have := HK0.out; have := HO.out; have := HIJ.out; have := HLi.out; omega); clear hg; by_cases hk : k < i1
        · have hkl : k + 1 < l.length := by have := HO.out; have := HIJ.out; have := HLi.out; omega
          (have c1 : (k : Int) < (l.length : Int) := by omega); (have c2 : (k + 1 : Int) < (l.length : Int) := by omega); (have c3 : (k : Int) < (cap : Int) := by have := HO.out; omega); (have c4 : (k + 1 : Int) < (cap : Int) := by have := HO.out; omega); have HKl : Hid (k < i1) := hk; (obtain ⟨x, hx⟩ : ∃ x, l1[k]? = some x := ⟨_, List.getElem?_eq_getElem (by have := HP1.out.length_eq; omega)⟩); (obtain ⟨y, hy⟩ : ∃ y, l1[k + 1]? = some y := ⟨_, List.getElem?_eq_getElem (by have := HP1.out.length_eq; omega)⟩); obtain ⟨x0, x1, x2, x3, x4, x5⟩ := HR1.out.cells hx; obtain ⟨y0, y1, y2, y3, y4, y5⟩ := HR1.out.cells hy; (have hp := HR1.out.put (j := k) (by have := HP1.out.length_eq; omega) y); (obtain ⟨z, hz⟩ : ∃ z, (l1.set (k) y)[k + 1]? = some z := ⟨_, List.getElem?_eq_getElem (by have := HP1.out.length_eq; simp; omega)⟩); obtain ⟨z0, z1, z2, z3, z4, z5⟩ := hp.cells hz; (have hq := hp.put (j := k + 1) (by have := HP1.out.length_eq; simp; omega) x); obtain ⟨V, hV⟩ : ∃ V, V = ((((((wr).setCell ⟨g, (k) * 3, none⟩ (.int .u64 (y : Nat))).setCell ⟨g, (k) * 3 + 1, none⟩ (.int .u64 (bm ps.length (wnB ps y) : Nat))).setCell ⟨g, (k) * 3 + 2, none⟩ (.int .u64 (bm ps.length (swB ps y) : Nat))).setCell ⟨g, (k + 1) * 3, none⟩ (.int .u64 (x : Nat))).setCell ⟨g, (k + 1) * 3 + 1, none⟩ (.int .u64 (bm ps.length (wnB ps x) : Nat))).setCell ⟨g, (k + 1) * 3 + 2, none⟩ (.int .u64 (bm ps.length (swB ps x) : Nat)) := ⟨_, rfl⟩; (have HRV : Hid (SRow ps V g ((l1.set (k) y).set (k + 1) x) rest) := by rw [hV]; exact hq); have HPV : Hid (((l1.set (k) y).set (k + 1) x).Perm l) := (swap_perm hx hy).trans HP1.out; (have HKV : Hid (Kept (fun b => b ≠ g) w V) := by rw [hV]; exact (((((HK1.out.set _).set _).set _).set _).set _).set _); clear hx hy hp hz hq; clear hkl; go_wp2_with fail
          go_region
          all_goals
            rw [← hV]; clear hV; clear x0 x1 x2 x3 x4 x5 y0 y1 y2 y3 y4 y5 z0 z1 z2 z3 z4 z5; go_wp2_with fail
            go_roundg (i1 - (k + 1))
            case measure => have := HGk2.out; have := HKl.out; omega
            case rel => exact ⟨k + 1, _, rfl, by go_num, by have := HK0.out; have := HKl.out; show _ ∧ _; omega, HPV, HRV, HKV.out.drewK⟩
        · have hk2 : decide (k < i1) = false := decide_eq_false hk
          clear hk; go_wp2_with fail; (exact bodyPost_ret (v := .tuple #[]) (by simp [results, Try.results71, go_sem]) rfl ⟨l1, HP1.out, rfl, HR1.out, HK1.out⟩)
set_option maxRecDepth 10000 in
set_option maxHeartbeats 16000000 in
theorem symm_two {ps : List PartM} (g cap : Nat) (rest : List Value) (fuel : Nat) (ih : SymS ps g cap rest fuel) (l : List Nat) (lo md hi : Nat) (w : World) (hl : l.length ≤ 100000) (hc : l.length ≤ cap) (h1 : lo < md) (h2 : md < hi) (h3 : hi ≤ l.length) (h4 : hi - lo < fuel + 1) (hr : SRow ps w g l rest) (hcase : md - lo ≠ 1 ∧ hi - md = 1) :
    Calls Try.prog 71 #[.slice (some ⟨g, 0, none⟩) l.length cap, .int .i64 (lo : Nat), .int .i64 (md : Nat), .int .i64 (hi : Nat), .func (.func 52) #[] #[]] w fun e w' => SortP ps g l rest w e w' := by
  have HR : Hid (SRow ps w g l rest) := hr; (have HCm : Hid (∀ u v W, Calls Try.prog 52 #[WV ps u, WV ps v] W _) := fun u v W => cmpW_any ps u v W)
  have HRo : Hid (∀ (l1 : List Nat) (x y z : Nat) (W : World), l1.Perm l → x < y → y < z → z ≤ l.length → SRow ps W g l1 rest → Calls Try.prog 74 #[.slice (some ⟨g, 0, none⟩) l.length cap, .int .i64 (x : Nat), .int .i64 (y : Nat), .int .i64 (z : Nat), .func (.func 52) #[] #[]] W fun e w' => SortP ps g l1 rest W e w') := fun l1 x y z W hp q1 q2 q3 q4 => by
    (have := rotate_any (ps := ps) g cap (.func (.func 52) #[] #[]) rest l1 (by rw [hp.length_eq]; exact hl) (by rw [hp.length_eq]; exact hc) x y z q1 q2 (by rw [hp.length_eq]; exact q3) W q4)
    rwa [hp.length_eq] at this
  have HIH : Hid (∀ (l1 : List Nat) (x y z : Nat) (W : World), l1.Perm l → x < y → y < z → z ≤ l.length → z - x < fuel → SRow ps W g l1 rest → Calls Try.prog 71 #[.slice (some ⟨g, 0, none⟩) l.length cap, .int .i64 (x : Nat), .int .i64 (y : Nat), .int .i64 (z : Nat), .func (.func 52) #[] #[]] W fun e w' => SortP ps g l1 rest W e w') := fun l1 x y z W hp q1 q2 q3 q4 q5 => by
    (have := ih l1 x y z W (by rw [hp.length_eq]; exact hl) (by rw [hp.length_eq]; exact hc) q1 q2 (by rw [hp.length_eq]; exact q3) q4 q5)
    rwa [hp.length_eq] at this
  have hcf := worlds1_in; have HO : Hid (lo < md ∧ md < hi ∧ hi ≤ l.length ∧ l.length ≤ 100000 ∧ l.length ≤ cap ∧ hi - lo < fuel + 1) := ⟨h1, h2, h3, hl, hc, h4⟩; (have hlI : (l.length : Int) ≤ 100000 := by omega); (have hmI : (md : Int) ≤ 100000 := by omega); (have hhI9 : (hi : Int) ≤ 100000 := by omega); (have hloI : (lo : Int) ≤ 100000 := by omega); unfold WV at HCm; obtain ⟨ml, hml0⟩ : ∃ ml, ml = md - lo := ⟨_, rfl⟩; (have hml : (md : Int) - (lo : Int) = (ml : Int) := by omega); (have hml1 : ((ml : Int) == 1) = false := by simp; omega); (have hml2 : ((ml : Nat) == 1) = false := by simp; omega); (have hhm : (hi : Int) - (md : Int) = 1 := by omega); clear hml0; clear h1 h2 h3 h4 hl hc hr ih hcase
  go_enter Try.func71, Try.ntmps71
  go_wp2_with fail; clear hml hml1 hhm hml2
  go_loopg [14, 15] (md - lo) (fun gg c d wr => ∃ i j, gg = j - i ∧ c = .int .i64 (i : Nat) ∧ d = .int .i64 (j : Nat) ∧ Hid (lo ≤ i ∧ i ≤ j ∧ j ≤ md) ∧ Hid (Below w.heap.size w wr))
  case atStart => exact ⟨lo, md, rfl, by go_num, by go_num, by have := HO.out; show _ ∧ _; omega, Below.refl _ _⟩
  case round =>
    obtain ⟨i, j, hg, rfl, rfl, HIJ, HB⟩ := hrel; have HGk : Hid (gk = j - i) := hg; (have hiI : (i : Int) ≤ 100000 := by have := HIJ.out; have := HO.out; omega); (have hjI : (j : Int) ≤ 100000 := by have := HIJ.out; have := HO.out; omega); clear hg; by_cases hij : i < j
    · obtain ⟨hx, hhx⟩ : ∃ hx, hx = (i + j) / 2 := ⟨_, rfl⟩
      (have hhI : ((i : Int) + (j : Int)) / 2 = (hx : Int) := by omega); (have HX : Hid (i ≤ hx ∧ hx < j) := by show _ ∧ _; omega); (have hxI : (hx : Int) ≤ 100000 := by have := HX.out; omega)

      (obtain ⟨xa, hxa⟩ : ∃ x, l[md]? = some x := ⟨_, List.getElem?_eq_getElem (by have := HO.out; have := HX.out; have := HIJ.out; omega)⟩); (obtain ⟨xb, hxb⟩ : ∃ x, l[hx]? = some x := ⟨_, List.getElem?_eq_getElem (by have := HO.out; have := HX.out; have := HIJ.out; omega)⟩); have HXa : Hid (l[md]? = some xa) := hxa; have HXb : Hid (l[hx]? = some xb) := hxb; (have b1 : (md : Int) < (l.length : Int) := by have := HO.out; have := HX.out; have := HIJ.out; omega); (have b2 : (hx : Int) < (l.length : Int) := by have := HO.out; have := HX.out; have := HIJ.out; omega); (have b3 : (md : Int) < (cap : Int) := by have := HO.out; omega); (have b4 : (hx : Int) < (cap : Int) := by have := HO.out; omega); clear hxa hxb hhx; go_wp2_with fail; clear hij hhI; (refine wp_region_free (by kernel_rfl) [fun v _ => v = (.func (.func 52) #[] #[]), fun v _ => v = (.slice (some ⟨g, 0, none⟩) l.length cap), fun v _ => v = (.int .i64 (md : Nat)), fun v _ => v = (.pointer (some ⟨g, md * 3, none⟩)), fun v _ => v = (.agg #[.int .u64 (xa : Nat), .int .u64 (bm ps.length (wnB ps xa) : Nat), .int .u64 (bm ps.length (swB ps xa) : Nat)]), fun v _ => v = (.slice (some ⟨g, 0, none⟩) l.length cap), fun v _ => v = (.int .i64 (hx : Nat)), fun v _ => v = (.pointer (some ⟨g, hx * 3, none⟩)), fun v _ => v = (.agg #[.int .u64 (xb : Nat), .int .u64 (bm ps.length (wnB ps xb) : Nat), .int .u64 (bm ps.length (swB ps xb) : Nat)]), kInt, kBo, kBo] ?_ (by kernel_rfl) (by kernel_rfl) 220 rfl (by kernel_rfl) ?_ ?_)
      · intro p hp
        simp only [List.mem_cons, List.not_mem_nil, or_false] at hp
        rcases hp with rfl | rfl | rfl | rfl | rfl | rfl | rfl | rfl | rfl | rfl | rfl | rfl
        · exact fun _ _ _ h _ => h
        · exact fun _ _ _ h _ => h
        · exact fun _ _ _ h _ => h
        · exact fun _ _ _ h _ => h
        · exact fun _ _ _ h _ => h
        · exact fun _ _ _ h _ => h
        · exact fun _ _ _ h _ => h
        · exact fun _ _ _ h _ => h
        · exact fun _ _ _ h _ => h
        · exact kInt_stays
        · exact kBo_stays
        · exact kBo_stays
      · refine ⟨?_, ?_, ?_, ?_, ?_, ?_, ?_, ?_, ?_, ?_, ?_, ?_, trivial⟩
        · intro a wx hB hold hdep K hK
          have t4 : a.tmps[4]? = some (.func (.func 52) #[] #[]) := hold.2.2 4 rfl; clear hold hdep; go_simp; exact hK.out _ _ rfl (Below.refl _ _)
        · intro a wx hB hold hdep K hK
          have t0 : a.tmps[0]? = some (.slice (some ⟨g, 0, none⟩) l.length cap) := hold.2.2 0 rfl; clear hold hdep; go_simp; exact hK.out _ _ rfl (Below.refl _ _)
        · intro a wx hB hold hdep K hK
          have t2 : a.tmps[2]? = some (.int .i64 (md : Nat)) := hold.2.2 2 rfl; clear hold hdep; go_simp; exact hK.out _ _ rfl (Below.refl _ _)
        · intro a wx hB hold hdep K hK
          obtain ⟨v93, t93, p93⟩ := hdep 1 rfl _ 93 rfl rfl; have e93 : v93 = (.slice (some ⟨g, 0, none⟩) l.length cap) := p93; subst e93; obtain ⟨v94, t94, p94⟩ := hdep 2 rfl _ 94 rfl rfl; have e94 : v94 = (.int .i64 (md : Nat)) := p94; subst e94; clear hold hdep; go_simp; exact hK.out _ _ rfl (Below.refl _ _)
        · intro a wx hB hold hdep K hK
          obtain ⟨v95, t95, p95⟩ := hdep 3 rfl _ 95 rfl rfl; have e95 : v95 = (.pointer (some ⟨g, md * 3, none⟩)) := p95; subst e95; obtain ⟨q0, q1, q2, -⟩ := ((HR.out.up HB.out).up hB).cells HXa.out; clear hold hdep; go_simp; exact hK.out _ _ rfl (Below.refl _ _)
        · intro a wx hB hold hdep K hK
          have t0 : a.tmps[0]? = some (.slice (some ⟨g, 0, none⟩) l.length cap) := hold.2.2 0 rfl; clear hold hdep; go_simp; exact hK.out _ _ rfl (Below.refl _ _)
        · intro a wx hB hold hdep K hK
          have t16 : a.tmps[16]? = some (.int .i64 (hx : Nat)) := hold.2.2 16 rfl; clear hold hdep; go_simp; exact hK.out _ _ rfl (Below.refl _ _)
        · intro a wx hB hold hdep K hK
          obtain ⟨v97, t97, p97⟩ := hdep 5 rfl _ 97 rfl rfl; have e97 : v97 = (.slice (some ⟨g, 0, none⟩) l.length cap) := p97; subst e97; obtain ⟨v98, t98, p98⟩ := hdep 6 rfl _ 98 rfl rfl; have e98 : v98 = (.int .i64 (hx : Nat)) := p98; subst e98; clear hold hdep; go_simp; exact hK.out _ _ rfl (Below.refl _ _)
        · intro a wx hB hold hdep K hK
          obtain ⟨v99, t99, p99⟩ := hdep 7 rfl _ 99 rfl rfl; have e99 : v99 = (.pointer (some ⟨g, hx * 3, none⟩)) := p99; subst e99; obtain ⟨q0, q1, q2, -⟩ := ((HR.out.up HB.out).up hB).cells HXb.out; clear hold hdep; go_simp; exact hK.out _ _ rfl (Below.refl _ _)
        · intro a wx hB hold hdep K hK
          obtain ⟨v92, t92, p92⟩ := hdep 0 rfl _ 92 rfl rfl; have e92 : v92 = (.func (.func 52) #[] #[]) := p92; subst e92; obtain ⟨v96, t96, p96⟩ := hdep 4 rfl _ 96 rfl rfl; have e96 : v96 = (.agg #[.int .u64 (xa : Nat), .int .u64 (bm ps.length (wnB ps xa) : Nat), .int .u64 (bm ps.length (swB ps xa) : Nat)]) := p96; subst e96; obtain ⟨v100, t100, p100⟩ := hdep 8 rfl _ 100 rfl rfl; have e100 : v100 = (.agg #[.int .u64 (xb : Nat), .int .u64 (bm ps.length (wnB ps xb) : Nat), .int .u64 (bm ps.length (swB ps xb) : Nat)]) := p100; subst e100; have HW : Hid (Calls Try.prog 52 #[.agg #[.int .u64 (xa : Nat), .int .u64 (bm ps.length (wnB ps xa) : Nat), .int .u64 (bm ps.length (swB ps xa) : Nat)], .agg #[.int .u64 (xb : Nat), .int .u64 (bm ps.length (wnB ps xb) : Nat), .int .u64 (bm ps.length (swB ps xb) : Nat)]] wx _) := HCm.out xa xb wx; clear hold hdep; go_simp; refine HW.out.mono ?_; rintro _ w9 ⟨⟨c9, rfl⟩, hb9⟩; go_simp; exact hK.out _ _ ⟨_, rfl⟩ hb9
        · intro a wx hB hold hdep K hK
          obtain ⟨v101, t101, p101⟩ := hdep 9 rfl _ 101 rfl rfl; have P101 : Hid ((kInt) v101 wx) := p101; clear p101; obtain ⟨c9, rfl⟩ := P101.out; clear P101; clear hold hdep; go_simp; exact hK.out _ _ ⟨_, rfl⟩ (Below.refl _ _)
        · intro a wx hB hold hdep K hK
          obtain ⟨v102, t102, p102⟩ := hdep 10 rfl _ 102 rfl rfl; have P102 : Hid ((kBo) v102 wx) := p102; clear p102; obtain ⟨c9, rfl⟩ := P102.out; clear P102; clear hold hdep; go_simp; exact hK.out _ _ ⟨_, rfl⟩ (Below.refl _ _)
      · intro a wx hB hold hgot
        obtain ⟨vZ, tvZ, pvZ⟩ := hgot 11 _ 103 rfl rfl; obtain ⟨bz, rfl⟩ := pvZ; have HBx : Hid (Below wr.heap.size wr wx) := hB; obtain ⟨tm, df⟩ := a; (obtain ⟨ys, hys, htm, rfl⟩ := frame_mid2 92 12 (by kernel_rfl) (Nat.le_of_ble_eq_true rfl) hold); obtain ⟨x92, x93, x94, x95, x96, x97, x98, x99, x100, x101, x102, x103, rfl⟩ := rowW12 ys hys; simp only [List.take_succ_cons, List.take_zero, List.drop_succ_cons, List.drop_zero, List.cons_append, List.nil_append] at htm; subst htm; obtain rfl : x103 = _ := someInjM tvZ; clear hys hold hgot tvZ hB; have HB2 : Hid (Below w.heap.size w wx) := below_join HB.out HBx.out; clear HBx HXa HXb
        cases bz
        · go_wp2_with fail
          go_roundg (hx - i)
          case measure => have := HGk.out; have := HX.out; omega
          case rel => exact ⟨i, hx, rfl, by go_num, by go_num, by have := HX.out; have := HIJ.out; show _ ∧ _; omega, HB2⟩
        · go_wp2_with fail
          go_roundg (j - (hx + 1))
          case measure => have := HGk.out; have := HX.out; omega
          case rel => exact ⟨hx + 1, j, rfl, by go_num, by go_num, by have := HX.out; have := HIJ.out; show _ ∧ _; omega, HB2⟩
    · have hij2 : decide (i < j) = false := decide_eq_false hij
      (have HE : Hid (i = j) := by have := HIJ.out; show _ = _; omega); clear hij; go_wp2_with fail; clear hij2; (have HLi : Hid (i ≤ md) := by have := HO.out; have := HIJ.out; show _ ≤ _; omega)
      go_loopg [17] (md - i) (fun gg c wr => ∃ k l1, gg = k - i ∧ c = .int .i64 (k : Nat) ∧ Hid (i ≤ k ∧ k ≤ md) ∧ Hid (l1.Perm l) ∧ Hid (SRow ps wr g l1 rest) ∧ Hid (Kept (fun b => b ≠ g) w wr))
      case atStart => exact ⟨md, l, rfl, by go_num, by have := HO.out; have := HIJ.out; have := HE.out; have := HLi.out; show _ ∧ _; omega, List.Perm.refl _, HR.out.up HB.out, Kept.belowK (Kept.refl _ _) HB.out⟩
      case round =>
        obtain ⟨k, l1, hg, rfl, HK0, HP1, HR1, HK1⟩ := hrel; have HGk2 : Hid (gk = k - i) := hg; (have hkI : (k : Int) ≤ 100000 := by have := HK0.out; have := HO.out; have := HIJ.out; have := HLi.out; omega); clear hg; by_cases hk : i < k
        · obtain ⟨q, hq⟩ : ∃ q, k = q + 1 := ⟨k - 1, by omega⟩
          (have hkl : k < l.length := by have := HO.out; have := HK0.out; omega); (have hjq : (k : Int) - 1 = (q : Int) := by omega); (have hqw : IntKind.i64.wrap (q : Int) = (q : Int) := wrap_small q (by omega)); have HQ : Hid (k = q + 1) := hq; (have c1 : (k : Int) < (l.length : Int) := by omega); (have c2 : (q : Int) < (l.length : Int) := by omega); (have c3 : (k : Int) < (cap : Int) := by have := HO.out; omega); (have c4 : (q : Int) < (cap : Int) := by have := HO.out; omega); have HKl : Hid (i < k) := hk; (obtain ⟨x, hx⟩ : ∃ x, l1[k]? = some x := ⟨_, List.getElem?_eq_getElem (by have := HP1.out.length_eq; omega)⟩); (obtain ⟨y, hy⟩ : ∃ y, l1[q]? = some y := ⟨_, List.getElem?_eq_getElem (by have := HP1.out.length_eq; omega)⟩); obtain ⟨x0, x1, x2, x3, x4, x5⟩ := HR1.out.cells hx; obtain ⟨y0, y1, y2, y3, y4, y5⟩ := HR1.out.cells hy; (have hp := HR1.out.put (j := k) (by have := HP1.out.length_eq; omega) y); (obtain ⟨z, hz⟩ : ∃ z, (l1.set (k) y)[q]? = some z := ⟨_, List.getElem?_eq_getElem (by have := HP1.out.length_eq; simp; omega)⟩); obtain ⟨z0, z1, z2, z3, z4, z5⟩ := hp.cells hz; (have hq := hp.put (j := q) (by have := HP1.out.length_eq; simp; omega) x); obtain ⟨V, hV⟩ : ∃ V, V = ((((((wr).setCell ⟨g, (k) * 3, none⟩ (.int .u64 (y : Nat))).setCell ⟨g, (k) * 3 + 1, none⟩ (.int .u64 (bm ps.length (wnB ps y) : Nat))).setCell ⟨g, (k) * 3 + 2, none⟩ (.int .u64 (bm ps.length (swB ps y) : Nat))).setCell ⟨g, (q) * 3, none⟩ (.int .u64 (x : Nat))).setCell ⟨g, (q) * 3 + 1, none⟩ (.int .u64 (bm ps.length (wnB ps x) : Nat))).setCell ⟨g, (q) * 3 + 2, none⟩ (.int .u64 (bm ps.length (swB ps x) : Nat)) := ⟨_, rfl⟩; (have HRV : Hid (SRow ps V g ((l1.set (k) y).set (q) x) rest) := by rw [hV]; exact hq); have HPV : Hid (((l1.set (k) y).set (q) x).Perm l) := (swap_perm hx hy).trans HP1.out; (have HKV : Hid (Kept (fun b => b ≠ g) w V) := by rw [hV]; exact (((((HK1.out.set _).set _).set _).set _).set _).set _); clear hx hy hp hz hq; clear hkl hq; go_wp2_with fail
          go_region
          all_goals
            rw [← hV]; clear hV; clear x0 x1 x2 x3 x4 x5 y0 y1 y2 y3 y4 y5 z0 z1 z2 z3 z4 z5; go_wp2_with fail
            go_roundg (q - i)
            case measure => have := HGk2.out; have := HKl.out; have := HQ.out; omega
            case rel => exact ⟨q, _, rfl, by go_num, by have := HK0.out; have := HKl.out; have := HQ.out; show _ ∧ _; omega, HPV, HRV, HKV.out.drewK⟩
        · have hk2 : decide (i < k) = false := decide_eq_false hk
          clear hk; go_wp2_with fail; (exact bodyPost_ret (v := .tuple #[]) (by simp [results, Try.results71, go_sem]) rfl ⟨l1, HP1.out, rfl, HR1.out, HK1.out⟩)
set_option maxRecDepth 10000 in
set_option maxHeartbeats 16000000 in
theorem symm_gt {ps : List PartM} (g cap : Nat) (rest : List Value) (fuel : Nat) (ih : SymS ps g cap rest fuel) (l : List Nat) (lo md hi : Nat) (w : World) (hl : l.length ≤ 100000) (hc : l.length ≤ cap) (h1 : lo < md) (h2 : md < hi) (h3 : hi ≤ l.length) (h4 : hi - lo < fuel + 1) (hr : SRow ps w g l rest) (hcase : md - lo ≠ 1 ∧ hi - md ≠ 1 ∧ (lo + hi) / 2 < md) :
    Calls Try.prog 71 #[.slice (some ⟨g, 0, none⟩) l.length cap, .int .i64 (lo : Nat), .int .i64 (md : Nat), .int .i64 (hi : Nat), .func (.func 52) #[] #[]] w fun e w' => SortP ps g l rest w e w' := by
  have HR : Hid (SRow ps w g l rest) := hr; (have HCm : Hid (∀ u v W, Calls Try.prog 52 #[WV ps u, WV ps v] W _) := fun u v W => cmpW_any ps u v W)
  have HRo : Hid (∀ (l1 : List Nat) (x y z : Nat) (W : World), l1.Perm l → x < y → y < z → z ≤ l.length → SRow ps W g l1 rest → Calls Try.prog 74 #[.slice (some ⟨g, 0, none⟩) l.length cap, .int .i64 (x : Nat), .int .i64 (y : Nat), .int .i64 (z : Nat), .func (.func 52) #[] #[]] W fun e w' => SortP ps g l1 rest W e w') := fun l1 x y z W hp q1 q2 q3 q4 => by
    (have := rotate_any (ps := ps) g cap (.func (.func 52) #[] #[]) rest l1 (by rw [hp.length_eq]; exact hl) (by rw [hp.length_eq]; exact hc) x y z q1 q2 (by rw [hp.length_eq]; exact q3) W q4)
    rwa [hp.length_eq] at this
  have HIH : Hid (∀ (l1 : List Nat) (x y z : Nat) (W : World), l1.Perm l → x < y → y < z → z ≤ l.length → z - x < fuel → SRow ps W g l1 rest → Calls Try.prog 71 #[.slice (some ⟨g, 0, none⟩) l.length cap, .int .i64 (x : Nat), .int .i64 (y : Nat), .int .i64 (z : Nat), .func (.func 52) #[] #[]] W fun e w' => SortP ps g l1 rest W e w') := fun l1 x y z W hp q1 q2 q3 q4 q5 => by
    (have := ih l1 x y z W (by rw [hp.length_eq]; exact hl) (by rw [hp.length_eq]; exact hc) q1 q2 (by rw [hp.length_eq]; exact q3) q4 q5)
    rwa [hp.length_eq] at this
  have hcf := worlds1_in; have HO : Hid (lo < md ∧ md < hi ∧ hi ≤ l.length ∧ l.length ≤ 100000 ∧ l.length ≤ cap ∧ hi - lo < fuel + 1) := ⟨h1, h2, h3, hl, hc, h4⟩; (have hlI : (l.length : Int) ≤ 100000 := by omega); (have hmI : (md : Int) ≤ 100000 := by omega); (have hhI9 : (hi : Int) ≤ 100000 := by omega); (have hloI : (lo : Int) ≤ 100000 := by omega); unfold WV at HCm; obtain ⟨ml, hml0⟩ : ∃ ml, ml = md - lo := ⟨_, rfl⟩; (have hml : (md : Int) - (lo : Int) = (ml : Int) := by omega); (have hml1 : ((ml : Int) == 1) = false := by simp; omega); obtain ⟨hm, hhm0⟩ : ∃ ml, ml = hi - md := ⟨_, rfl⟩; (have hhm : (hi : Int) - (md : Int) = (hm : Int) := by omega); (have hhm1 : ((hm : Int) == 1) = false := by simp; omega); obtain ⟨mid, hmid⟩ : ∃ mid, mid = (lo + hi) / 2 := ⟨_, rfl⟩; (have hmidI : ((lo : Int) + (hi : Int)) / 2 = (mid : Int) := by omega); obtain ⟨nn, hnn⟩ : ∃ nn, nn = mid + md := ⟨_, rfl⟩; (have hnnI : (mid : Int) + (md : Int) = (nn : Int) := by omega); obtain ⟨pp, hpp⟩ : ∃ pp, pp = nn - 1 := ⟨_, rfl⟩; (have hppI : (nn : Int) - 1 = (pp : Int) := by omega); (have hmid2 : (mid : Int) ≤ 100000 := by omega); (have hnn2 : (nn : Int) ≤ 200000 := by omega); (have hpp2 : (pp : Int) ≤ 200000 := by omega); (have HMid : Hid (lo < mid ∧ mid < hi) := by show _ ∧ _; omega); (have HN : Hid (nn = mid + md ∧ pp = nn - 1 ∧ mid = (lo + hi) / 2 ∧ mid < md) := ⟨hnn, hpp, hmid, by rw [hmid]; exact hcase.2.2⟩); obtain ⟨st, hst⟩ : ∃ st, st = nn - hi := ⟨_, rfl⟩; (have hstI : (nn : Int) - (hi : Int) = (st : Int) := by omega); (have hst2 : (st : Int) ≤ 100000 := by omega); have HSt : Hid (st = nn - hi) := hst; (have hgt : (mid : Int) < (md : Int) := by omega); clear hst; clear hml0 hhm0 hmid hnn hpp; clear h1 h2 h3 h4 hl hc hr ih hcase
  go_enter Try.func71, Try.ntmps71
  go_wp2_with fail; clear hml hml1 hhm hhm1 hmidI hnnI hppI hgt hstI
  go_loopg [20, 21] (mid - st) (fun gg c d wr => ∃ i j, gg = j - i ∧ c = .int .i64 (i : Nat) ∧ d = .int .i64 (j : Nat) ∧ Hid (st ≤ i ∧ i ≤ j ∧ j ≤ mid) ∧ Hid (Below w.heap.size w wr))
  case atStart => exact ⟨st, mid, rfl, by go_num, by go_num, by have := HO.out; have := HN.out; have := HSt.out; show _ ∧ _; omega, Below.refl _ _⟩
  case round =>
    obtain ⟨i, j, hg, rfl, rfl, HIJ, HB⟩ := hrel; have HGk : Hid (gk = j - i) := hg; (have hiI : (i : Int) ≤ 100000 := by have := HIJ.out; have := HO.out; have := HN.out; have := HSt.out; omega); (have hjI : (j : Int) ≤ 100000 := by have := HIJ.out; have := HO.out; have := HN.out; have := HSt.out; omega); clear hg; by_cases hij : i < j
    · obtain ⟨hx, hhx⟩ : ∃ hx, hx = (i + j) / 2 := ⟨_, rfl⟩
      (have hhI : ((i : Int) + (j : Int)) / 2 = (hx : Int) := by omega); (have HX : Hid (i ≤ hx ∧ hx < j) := by show _ ∧ _; omega); (have hxI : (hx : Int) ≤ 100000 := by have := HX.out; omega); obtain ⟨pc, hpc⟩ : ∃ pc, pc = pp - hx := ⟨_, rfl⟩; (have hpcI : (pp : Int) - (hx : Int) = (pc : Int) := by have := HN.out; have := HX.out; have := HIJ.out; have := HO.out; have := HN.out; have := HSt.out; omega); have HPc : Hid (pc = pp - hx) := hpc; (have hpcw : IntKind.i64.wrap (pc : Int) = (pc : Int) := wrap_small pc (by have := HN.out; have := HO.out; have := HN.out; have := HSt.out; omega)); (have HPl : Hid (pc < l.length) := by have := HN.out; have := HX.out; have := HIJ.out; have := HO.out; have := HN.out; have := HSt.out; show _ < _; omega); have hpl := HPl.out; (obtain ⟨xa, hxa⟩ : ∃ x, l[pc]? = some x := ⟨_, List.getElem?_eq_getElem (by have := HO.out; have := HN.out; have := HSt.out; have := HX.out; have := HIJ.out; omega)⟩); (obtain ⟨xb, hxb⟩ : ∃ x, l[hx]? = some x := ⟨_, List.getElem?_eq_getElem (by have := HO.out; have := HN.out; have := HSt.out; have := HX.out; have := HIJ.out; omega)⟩); have HXa : Hid (l[pc]? = some xa) := hxa; have HXb : Hid (l[hx]? = some xb) := hxb; (have b1 : (pc : Int) < (l.length : Int) := by have := HO.out; have := HN.out; have := HSt.out; have := HX.out; have := HIJ.out; omega); (have b2 : (hx : Int) < (l.length : Int) := by have := HO.out; have := HN.out; have := HSt.out; have := HX.out; have := HIJ.out; omega); (have b3 : (pc : Int) < (cap : Int) := by have := HO.out; have := HN.out; have := HSt.out; omega); (have b4 : (hx : Int) < (cap : Int) := by have := HO.out; have := HN.out; have := HSt.out; omega); clear hxa hxb hhx hpl hpc; go_wp2_with fail; clear hij hhI; (refine wp_region_free (by kernel_rfl) [fun v _ => v = (.func (.func 52) #[] #[]), fun v _ => v = (.slice (some ⟨g, 0, none⟩) l.length cap), fun v _ => v = (.int .i64 (pp : Nat)), fun v _ => v = (.int .i64 (hx : Nat)), fun v _ => v = (.int .i64 (pc : Nat)), fun v _ => v = (.pointer (some ⟨g, pc * 3, none⟩)), fun v _ => v = (.agg #[.int .u64 (xa : Nat), .int .u64 (bm ps.length (wnB ps xa) : Nat), .int .u64 (bm ps.length (swB ps xa) : Nat)]), fun v _ => v = (.slice (some ⟨g, 0, none⟩) l.length cap), fun v _ => v = (.int .i64 (hx : Nat)), fun v _ => v = (.pointer (some ⟨g, hx * 3, none⟩)), fun v _ => v = (.agg #[.int .u64 (xb : Nat), .int .u64 (bm ps.length (wnB ps xb) : Nat), .int .u64 (bm ps.length (swB ps xb) : Nat)]), kInt, kBo, kBo] ?_ (by kernel_rfl) (by kernel_rfl) 220 rfl (by kernel_rfl) ?_ ?_)
      · intro p hp
        simp only [List.mem_cons, List.not_mem_nil, or_false] at hp
        rcases hp with rfl | rfl | rfl | rfl | rfl | rfl | rfl | rfl | rfl | rfl | rfl | rfl | rfl | rfl
        · exact fun _ _ _ h _ => h
        · exact fun _ _ _ h _ => h
        · exact fun _ _ _ h _ => h
        · exact fun _ _ _ h _ => h
        · exact fun _ _ _ h _ => h
        · exact fun _ _ _ h _ => h
        · exact fun _ _ _ h _ => h
        · exact fun _ _ _ h _ => h
        · exact fun _ _ _ h _ => h
        · exact fun _ _ _ h _ => h
        · exact fun _ _ _ h _ => h
        · exact kInt_stays
        · exact kBo_stays
        · exact kBo_stays
      · refine ⟨?_, ?_, ?_, ?_, ?_, ?_, ?_, ?_, ?_, ?_, ?_, ?_, ?_, ?_, trivial⟩
        · intro a wx hB hold hdep K hK
          have t4 : a.tmps[4]? = some (.func (.func 52) #[] #[]) := hold.2.2 4 rfl; clear hold hdep; go_simp; exact hK.out _ _ rfl (Below.refl _ _)
        · intro a wx hB hold hdep K hK
          have t0 : a.tmps[0]? = some (.slice (some ⟨g, 0, none⟩) l.length cap) := hold.2.2 0 rfl; clear hold hdep; go_simp; exact hK.out _ _ rfl (Below.refl _ _)
        · intro a wx hB hold hdep K hK
          have t22 : a.tmps[22]? = some (.int .i64 (pp : Nat)) := hold.2.2 22 rfl; clear hold hdep; go_simp; exact hK.out _ _ rfl (Below.refl _ _)
        · intro a wx hB hold hdep K hK
          have t23 : a.tmps[23]? = some (.int .i64 (hx : Nat)) := hold.2.2 23 rfl; clear hold hdep; go_simp; exact hK.out _ _ rfl (Below.refl _ _)
        · intro a wx hB hold hdep K hK
          obtain ⟨v160, t160, p160⟩ := hdep 2 rfl _ 160 rfl rfl; have e160 : v160 = (.int .i64 (pp : Nat)) := p160; subst e160; obtain ⟨v161, t161, p161⟩ := hdep 3 rfl _ 161 rfl rfl; have e161 : v161 = (.int .i64 (hx : Nat)) := p161; subst e161; clear hold hdep; go_simp; exact hK.out _ _ rfl (Below.refl _ _)
        · intro a wx hB hold hdep K hK
          obtain ⟨v159, t159, p159⟩ := hdep 1 rfl _ 159 rfl rfl; have e159 : v159 = (.slice (some ⟨g, 0, none⟩) l.length cap) := p159; subst e159; obtain ⟨v162, t162, p162⟩ := hdep 4 rfl _ 162 rfl rfl; have e162 : v162 = (.int .i64 (pc : Nat)) := p162; subst e162; clear hold hdep; go_simp; exact hK.out _ _ rfl (Below.refl _ _)
        · intro a wx hB hold hdep K hK
          obtain ⟨v163, t163, p163⟩ := hdep 5 rfl _ 163 rfl rfl; have e163 : v163 = (.pointer (some ⟨g, pc * 3, none⟩)) := p163; subst e163; obtain ⟨q0, q1, q2, -⟩ := ((HR.out.up HB.out).up hB).cells HXa.out; clear hold hdep; go_simp; exact hK.out _ _ rfl (Below.refl _ _)
        · intro a wx hB hold hdep K hK
          have t0 : a.tmps[0]? = some (.slice (some ⟨g, 0, none⟩) l.length cap) := hold.2.2 0 rfl; clear hold hdep; go_simp; exact hK.out _ _ rfl (Below.refl _ _)
        · intro a wx hB hold hdep K hK
          have t23 : a.tmps[23]? = some (.int .i64 (hx : Nat)) := hold.2.2 23 rfl; clear hold hdep; go_simp; exact hK.out _ _ rfl (Below.refl _ _)
        · intro a wx hB hold hdep K hK
          obtain ⟨v165, t165, p165⟩ := hdep 7 rfl _ 165 rfl rfl; have e165 : v165 = (.slice (some ⟨g, 0, none⟩) l.length cap) := p165; subst e165; obtain ⟨v166, t166, p166⟩ := hdep 8 rfl _ 166 rfl rfl; have e166 : v166 = (.int .i64 (hx : Nat)) := p166; subst e166; clear hold hdep; go_simp; exact hK.out _ _ rfl (Below.refl _ _)
        · intro a wx hB hold hdep K hK
          obtain ⟨v167, t167, p167⟩ := hdep 9 rfl _ 167 rfl rfl; have e167 : v167 = (.pointer (some ⟨g, hx * 3, none⟩)) := p167; subst e167; obtain ⟨q0, q1, q2, -⟩ := ((HR.out.up HB.out).up hB).cells HXb.out; clear hold hdep; go_simp; exact hK.out _ _ rfl (Below.refl _ _)
        · intro a wx hB hold hdep K hK
          obtain ⟨v158, t158, p158⟩ := hdep 0 rfl _ 158 rfl rfl; have e158 : v158 = (.func (.func 52) #[] #[]) := p158; subst e158; obtain ⟨v164, t164, p164⟩ := hdep 6 rfl _ 164 rfl rfl; have e164 : v164 = (.agg #[.int .u64 (xa : Nat), .int .u64 (bm ps.length (wnB ps xa) : Nat), .int .u64 (bm ps.length (swB ps xa) : Nat)]) := p164; subst e164; obtain ⟨v168, t168, p168⟩ := hdep 10 rfl _ 168 rfl rfl; have e168 : v168 = (.agg #[.int .u64 (xb : Nat), .int .u64 (bm ps.length (wnB ps xb) : Nat), .int .u64 (bm ps.length (swB ps xb) : Nat)]) := p168; subst e168; have HW : Hid (Calls Try.prog 52 #[.agg #[.int .u64 (xa : Nat), .int .u64 (bm ps.length (wnB ps xa) : Nat), .int .u64 (bm ps.length (swB ps xa) : Nat)], .agg #[.int .u64 (xb : Nat), .int .u64 (bm ps.length (wnB ps xb) : Nat), .int .u64 (bm ps.length (swB ps xb) : Nat)]] wx _) := HCm.out xa xb wx; clear hold hdep; go_simp; refine HW.out.mono ?_; rintro _ w9 ⟨⟨c9, rfl⟩, hb9⟩; go_simp; exact hK.out _ _ ⟨_, rfl⟩ hb9
        · intro a wx hB hold hdep K hK
          obtain ⟨v169, t169, p169⟩ := hdep 11 rfl _ 169 rfl rfl; have P169 : Hid ((kInt) v169 wx) := p169; clear p169; obtain ⟨c9, rfl⟩ := P169.out; clear P169; clear hold hdep; go_simp; exact hK.out _ _ ⟨_, rfl⟩ (Below.refl _ _)
        · intro a wx hB hold hdep K hK
          obtain ⟨v170, t170, p170⟩ := hdep 12 rfl _ 170 rfl rfl; have P170 : Hid ((kBo) v170 wx) := p170; clear p170; obtain ⟨c9, rfl⟩ := P170.out; clear P170; clear hold hdep; go_simp; exact hK.out _ _ ⟨_, rfl⟩ (Below.refl _ _)
      · intro a wx hB hold hgot
        obtain ⟨vZ, tvZ, pvZ⟩ := hgot 13 _ 171 rfl rfl; obtain ⟨bz, rfl⟩ := pvZ; have HBx : Hid (Below wr.heap.size wr wx) := hB; obtain ⟨tm, df⟩ := a; (obtain ⟨ys, hys, htm, rfl⟩ := frame_mid2 158 14 (by kernel_rfl) (Nat.le_of_ble_eq_true rfl) hold); obtain ⟨x158, x159, x160, x161, x162, x163, x164, x165, x166, x167, x168, x169, x170, x171, rfl⟩ := rowW14 ys hys; simp only [List.take_succ_cons, List.take_zero, List.drop_succ_cons, List.drop_zero, List.cons_append, List.nil_append] at htm; subst htm; obtain rfl : x171 = _ := someInjM tvZ; clear hys hold hgot tvZ hB; have HB2 : Hid (Below w.heap.size w wx) := below_join HB.out HBx.out; clear HBx HXa HXb
        cases bz
        · go_wp2_with fail
          go_roundg (hx - i)
          case measure => have := HGk.out; have := HX.out; omega
          case rel => exact ⟨i, hx, rfl, by go_num, by go_num, by have := HX.out; have := HIJ.out; show _ ∧ _; omega, HB2⟩
        · go_wp2_with fail
          go_roundg (j - (hx + 1))
          case measure => have := HGk.out; have := HX.out; omega
          case rel => exact ⟨hx + 1, j, rfl, by go_num, by go_num, by have := HX.out; have := HIJ.out; show _ ∧ _; omega, HB2⟩
    · have hij2 : decide (i < j) = false := decide_eq_false hij
      (have HE : Hid (i = j) := by have := HIJ.out; show _ = _; omega); clear hij; obtain ⟨en, hen⟩ : ∃ en, en = nn - i := ⟨_, rfl⟩; (have henI : (nn : Int) - (i : Int) = (en : Int) := by have := HN.out; have := HIJ.out; have := HO.out; have := HN.out; have := HSt.out; omega); (have HEn : Hid (en ≤ hi ∧ mid ≤ en + 0 ∧ lo ≤ i ∧ i ≤ mid ∧ i ≤ md ∧ en = nn - i) := by have := HN.out; have := HIJ.out; have := HO.out; have := HN.out; have := HSt.out; show _ ∧ _; omega); (have hen2 : (en : Int) ≤ 100000 := by have := HEn.out; have := HO.out; have := HN.out; have := HSt.out; omega); have HRw : Hid (SRow ps wr g l rest) := HR.out.up HB.out; (have HKw : Hid (Kept (fun b => b ≠ g) w wr) := Kept.belowK (Kept.refl _ _) HB.out); have HPw : Hid (l.Perm l) := List.Perm.refl _; clear hen; by_cases k0 : i < md
      · by_cases m0 : md < en
        · go_wp2_with fail
          (refine (HRo.out l i md en wr HPw.out (by omega) (by omega) (by have := HEn.out; have := HO.out; have := HN.out; have := HSt.out; have := HMid.out; omega) HRw.out).mono ?_); rintro _ u5 ⟨l5, h1, rfl, h3, h4⟩; have P5 : Hid (l5.Perm l) := h1.trans HPw.out; have R5 : Hid (SRow ps u5 g l5 rest) := h3; (have K5 : Hid (Kept (fun b => b ≠ g) w u5) := keptW_on HKw.out h4 fun _ _ h => h); clear h1 h3 h4; by_cases k1 : lo < i
          · by_cases m1 : i < mid
            · go_wp2_with fail
              (refine (HIH.out l5 lo i mid u5 P5.out (by omega) (by omega) (by have := HEn.out; have := HO.out; have := HN.out; have := HSt.out; have := HMid.out; omega) (by have := HEn.out; have := HO.out; have := HN.out; have := HSt.out; have := HMid.out; omega) R5.out).mono ?_); rintro _ u6 ⟨l6, h1, rfl, h3, h4⟩; have P6 : Hid (l6.Perm l) := h1.trans P5.out; have R6 : Hid (SRow ps u6 g l6 rest) := h3; (have K6 : Hid (Kept (fun b => b ≠ g) w u6) := keptW_on K5.out h4 fun _ _ h => h); clear h1 h3 h4; by_cases k2 : mid < en
              · by_cases m2 : en < hi
                · go_wp2_with fail
                  (refine (HIH.out l6 mid en hi u6 P6.out (by omega) (by omega) (by have := HEn.out; have := HO.out; have := HN.out; have := HSt.out; have := HMid.out; omega) (by have := HEn.out; have := HO.out; have := HN.out; have := HSt.out; have := HMid.out; omega) R6.out).mono ?_); rintro _ u7 ⟨l7, h1, rfl, h3, h4⟩; have P7 : Hid (l7.Perm l) := h1.trans P6.out; have R7 : Hid (SRow ps u7 g l7 rest) := h3; (have K7 : Hid (Kept (fun b => b ≠ g) w u7) := keptW_on K6.out h4 fun _ _ h => h); clear h1 h3 h4; go_wp2_with fail
                  go_end0
                  exact ⟨l7, P7.out, rfl, R7.out, K7.out⟩
                · have d2 : decide (en < hi) = false := decide_eq_false m2
                  go_wp2_with fail
                  go_end0
                  exact ⟨l6, P6.out, rfl, R6.out, K6.out⟩
              · have d2 : decide (mid < en) = false := decide_eq_false k2
                go_wp2_with fail
                go_end0
                exact ⟨l6, P6.out, rfl, R6.out, K6.out⟩
            · have d1 : decide (i < mid) = false := decide_eq_false m1
              by_cases k2 : mid < en
              · by_cases m2 : en < hi
                · go_wp2_with fail
                  (refine (HIH.out l5 mid en hi u5 P5.out (by omega) (by omega) (by have := HEn.out; have := HO.out; have := HN.out; have := HSt.out; have := HMid.out; omega) (by have := HEn.out; have := HO.out; have := HN.out; have := HSt.out; have := HMid.out; omega) R5.out).mono ?_); rintro _ u7 ⟨l7, h1, rfl, h3, h4⟩; have P7 : Hid (l7.Perm l) := h1.trans P5.out; have R7 : Hid (SRow ps u7 g l7 rest) := h3; (have K7 : Hid (Kept (fun b => b ≠ g) w u7) := keptW_on K5.out h4 fun _ _ h => h); clear h1 h3 h4; go_wp2_with fail
                  go_end0
                  exact ⟨l7, P7.out, rfl, R7.out, K7.out⟩
                · have d2 : decide (en < hi) = false := decide_eq_false m2
                  go_wp2_with fail
                  go_end0
                  exact ⟨l5, P5.out, rfl, R5.out, K5.out⟩
              · have d2 : decide (mid < en) = false := decide_eq_false k2
                go_wp2_with fail
                go_end0
                exact ⟨l5, P5.out, rfl, R5.out, K5.out⟩
          · have d1 : decide (lo < i) = false := decide_eq_false k1
            by_cases k2 : mid < en
            · by_cases m2 : en < hi
              · go_wp2_with fail
                (refine (HIH.out l5 mid en hi u5 P5.out (by omega) (by omega) (by have := HEn.out; have := HO.out; have := HN.out; have := HSt.out; have := HMid.out; omega) (by have := HEn.out; have := HO.out; have := HN.out; have := HSt.out; have := HMid.out; omega) R5.out).mono ?_); rintro _ u7 ⟨l7, h1, rfl, h3, h4⟩; have P7 : Hid (l7.Perm l) := h1.trans P5.out; have R7 : Hid (SRow ps u7 g l7 rest) := h3; (have K7 : Hid (Kept (fun b => b ≠ g) w u7) := keptW_on K5.out h4 fun _ _ h => h); clear h1 h3 h4; go_wp2_with fail
                go_end0
                exact ⟨l7, P7.out, rfl, R7.out, K7.out⟩
              · have d2 : decide (en < hi) = false := decide_eq_false m2
                go_wp2_with fail
                go_end0
                exact ⟨l5, P5.out, rfl, R5.out, K5.out⟩
            · have d2 : decide (mid < en) = false := decide_eq_false k2
              go_wp2_with fail
              go_end0
              exact ⟨l5, P5.out, rfl, R5.out, K5.out⟩
        · have d0 : decide (md < en) = false := decide_eq_false m0
          by_cases k1 : lo < i
          · by_cases m1 : i < mid
            · go_wp2_with fail
              (refine (HIH.out l lo i mid wr HPw.out (by omega) (by omega) (by have := HEn.out; have := HO.out; have := HN.out; have := HSt.out; have := HMid.out; omega) (by have := HEn.out; have := HO.out; have := HN.out; have := HSt.out; have := HMid.out; omega) HRw.out).mono ?_); rintro _ u6 ⟨l6, h1, rfl, h3, h4⟩; have P6 : Hid (l6.Perm l) := h1.trans HPw.out; have R6 : Hid (SRow ps u6 g l6 rest) := h3; (have K6 : Hid (Kept (fun b => b ≠ g) w u6) := keptW_on HKw.out h4 fun _ _ h => h); clear h1 h3 h4; by_cases k2 : mid < en
              · by_cases m2 : en < hi
                · go_wp2_with fail
                  (refine (HIH.out l6 mid en hi u6 P6.out (by omega) (by omega) (by have := HEn.out; have := HO.out; have := HN.out; have := HSt.out; have := HMid.out; omega) (by have := HEn.out; have := HO.out; have := HN.out; have := HSt.out; have := HMid.out; omega) R6.out).mono ?_); rintro _ u7 ⟨l7, h1, rfl, h3, h4⟩; have P7 : Hid (l7.Perm l) := h1.trans P6.out; have R7 : Hid (SRow ps u7 g l7 rest) := h3; (have K7 : Hid (Kept (fun b => b ≠ g) w u7) := keptW_on K6.out h4 fun _ _ h => h); clear h1 h3 h4; go_wp2_with fail
                  go_end0
                  exact ⟨l7, P7.out, rfl, R7.out, K7.out⟩
                · have d2 : decide (en < hi) = false := decide_eq_false m2
                  go_wp2_with fail
                  go_end0
                  exact ⟨l6, P6.out, rfl, R6.out, K6.out⟩
              · have d2 : decide (mid < en) = false := decide_eq_false k2
                go_wp2_with fail
                go_end0
                exact ⟨l6, P6.out, rfl, R6.out, K6.out⟩
            · have d1 : decide (i < mid) = false := decide_eq_false m1
              by_cases k2 : mid < en
              · by_cases m2 : en < hi
                · go_wp2_with fail
                  (refine (HIH.out l mid en hi wr HPw.out (by omega) (by omega) (by have := HEn.out; have := HO.out; have := HN.out; have := HSt.out; have := HMid.out; omega) (by have := HEn.out; have := HO.out; have := HN.out; have := HSt.out; have := HMid.out; omega) HRw.out).mono ?_); rintro _ u7 ⟨l7, h1, rfl, h3, h4⟩; have P7 : Hid (l7.Perm l) := h1.trans HPw.out; have R7 : Hid (SRow ps u7 g l7 rest) := h3; (have K7 : Hid (Kept (fun b => b ≠ g) w u7) := keptW_on HKw.out h4 fun _ _ h => h); clear h1 h3 h4; go_wp2_with fail
                  go_end0
                  exact ⟨l7, P7.out, rfl, R7.out, K7.out⟩
                · have d2 : decide (en < hi) = false := decide_eq_false m2
                  go_wp2_with fail
                  go_end0
                  exact ⟨l, HPw.out, rfl, HRw.out, HKw.out⟩
              · have d2 : decide (mid < en) = false := decide_eq_false k2
                go_wp2_with fail
                go_end0
                exact ⟨l, HPw.out, rfl, HRw.out, HKw.out⟩
          · have d1 : decide (lo < i) = false := decide_eq_false k1
            by_cases k2 : mid < en
            · by_cases m2 : en < hi
              · go_wp2_with fail
                (refine (HIH.out l mid en hi wr HPw.out (by omega) (by omega) (by have := HEn.out; have := HO.out; have := HN.out; have := HSt.out; have := HMid.out; omega) (by have := HEn.out; have := HO.out; have := HN.out; have := HSt.out; have := HMid.out; omega) HRw.out).mono ?_); rintro _ u7 ⟨l7, h1, rfl, h3, h4⟩; have P7 : Hid (l7.Perm l) := h1.trans HPw.out; have R7 : Hid (SRow ps u7 g l7 rest) := h3; (have K7 : Hid (Kept (fun b => b ≠ g) w u7) := keptW_on HKw.out h4 fun _ _ h => h); clear h1 h3 h4; go_wp2_with fail
                go_end0
                exact ⟨l7, P7.out, rfl, R7.out, K7.out⟩
              · have d2 : decide (en < hi) = false := decide_eq_false m2
                go_wp2_with fail
                go_end0
                exact ⟨l, HPw.out, rfl, HRw.out, HKw.out⟩
            · have d2 : decide (mid < en) = false := decide_eq_false k2
              go_wp2_with fail
              go_end0
              exact ⟨l, HPw.out, rfl, HRw.out, HKw.out⟩
      · have d0 : decide (i < md) = false := decide_eq_false k0
        by_cases k1 : lo < i
        · by_cases m1 : i < mid
          · go_wp2_with fail
            (refine (HIH.out l lo i mid wr HPw.out (by omega) (by omega) (by have := HEn.out; have := HO.out; have := HN.out; have := HSt.out; have := HMid.out; omega) (by have := HEn.out; have := HO.out; have := HN.out; have := HSt.out; have := HMid.out; omega) HRw.out).mono ?_); rintro _ u6 ⟨l6, h1, rfl, h3, h4⟩; have P6 : Hid (l6.Perm l) := h1.trans HPw.out; have R6 : Hid (SRow ps u6 g l6 rest) := h3; (have K6 : Hid (Kept (fun b => b ≠ g) w u6) := keptW_on HKw.out h4 fun _ _ h => h); clear h1 h3 h4; by_cases k2 : mid < en
            · by_cases m2 : en < hi
              · go_wp2_with fail
                (refine (HIH.out l6 mid en hi u6 P6.out (by omega) (by omega) (by have := HEn.out; have := HO.out; have := HN.out; have := HSt.out; have := HMid.out; omega) (by have := HEn.out; have := HO.out; have := HN.out; have := HSt.out; have := HMid.out; omega) R6.out).mono ?_); rintro _ u7 ⟨l7, h1, rfl, h3, h4⟩; have P7 : Hid (l7.Perm l) := h1.trans P6.out; have R7 : Hid (SRow ps u7 g l7 rest) := h3; (have K7 : Hid (Kept (fun b => b ≠ g) w u7) := keptW_on K6.out h4 fun _ _ h => h); clear h1 h3 h4; go_wp2_with fail
                go_end0
                exact ⟨l7, P7.out, rfl, R7.out, K7.out⟩
              · have d2 : decide (en < hi) = false := decide_eq_false m2
                go_wp2_with fail
                go_end0
                exact ⟨l6, P6.out, rfl, R6.out, K6.out⟩
            · have d2 : decide (mid < en) = false := decide_eq_false k2
              go_wp2_with fail
              go_end0
              exact ⟨l6, P6.out, rfl, R6.out, K6.out⟩
          · have d1 : decide (i < mid) = false := decide_eq_false m1
            by_cases k2 : mid < en
            · by_cases m2 : en < hi
              · go_wp2_with fail
                (refine (HIH.out l mid en hi wr HPw.out (by omega) (by omega) (by have := HEn.out; have := HO.out; have := HN.out; have := HSt.out; have := HMid.out; omega) (by have := HEn.out; have := HO.out; have := HN.out; have := HSt.out; have := HMid.out; omega) HRw.out).mono ?_); rintro _ u7 ⟨l7, h1, rfl, h3, h4⟩; have P7 : Hid (l7.Perm l) := h1.trans HPw.out; have R7 : Hid (SRow ps u7 g l7 rest) := h3; (have K7 : Hid (Kept (fun b => b ≠ g) w u7) := keptW_on HKw.out h4 fun _ _ h => h); clear h1 h3 h4; go_wp2_with fail
                go_end0
                exact ⟨l7, P7.out, rfl, R7.out, K7.out⟩
              · have d2 : decide (en < hi) = false := decide_eq_false m2
                go_wp2_with fail
                go_end0
                exact ⟨l, HPw.out, rfl, HRw.out, HKw.out⟩
            · have d2 : decide (mid < en) = false := decide_eq_false k2
              go_wp2_with fail
              go_end0
              exact ⟨l, HPw.out, rfl, HRw.out, HKw.out⟩
        · have d1 : decide (lo < i) = false := decide_eq_false k1
          by_cases k2 : mid < en
          · by_cases m2 : en < hi
            · go_wp2_with fail
              (refine (HIH.out l mid en hi wr HPw.out (by omega) (by omega) (by have := HEn.out; have := HO.out; have := HN.out; have := HSt.out; have := HMid.out; omega) (by have := HEn.out; have := HO.out; have := HN.out; have := HSt.out; have := HMid.out; omega) HRw.out).mono ?_); rintro _ u7 ⟨l7, h1, rfl, h3, h4⟩; have P7 : Hid (l7.Perm l) := h1.trans HPw.out; have R7 : Hid (SRow ps u7 g l7 rest) := h3; (have K7 : Hid (Kept (fun b => b ≠ g) w u7) := keptW_on HKw.out h4 fun _ _ h => h); clear h1 h3 h4; go_wp2_with fail
              go_end0
              exact ⟨l7, P7.out, rfl, R7.out, K7.out⟩
            · have d2 : decide (en < hi) = false := decide_eq_false m2
              go_wp2_with fail
              go_end0
              exact ⟨l, HPw.out, rfl, HRw.out, HKw.out⟩
          · have d2 : decide (mid < en) = false := decide_eq_false k2
            go_wp2_with fail
            go_end0
            exact ⟨l, HPw.out, rfl, HRw.out, HKw.out⟩
set_option maxRecDepth 10000 in
set_option maxHeartbeats 16000000 in
theorem symm_le {ps : List PartM} (g cap : Nat) (rest : List Value) (fuel : Nat) (ih : SymS ps g cap rest fuel) (l : List Nat) (lo md hi : Nat) (w : World) (hl : l.length ≤ 100000) (hc : l.length ≤ cap) (h1 : lo < md) (h2 : md < hi) (h3 : hi ≤ l.length) (h4 : hi - lo < fuel + 1) (hr : SRow ps w g l rest) (hcase : md - lo ≠ 1 ∧ hi - md ≠ 1 ∧ md ≤ (lo + hi) / 2) :
    Calls Try.prog 71 #[.slice (some ⟨g, 0, none⟩) l.length cap, .int .i64 (lo : Nat), .int .i64 (md : Nat), .int .i64 (hi : Nat), .func (.func 52) #[] #[]] w fun e w' => SortP ps g l rest w e w' := by
  have HR : Hid (SRow ps w g l rest) := hr; (have HCm : Hid (∀ u v W, Calls Try.prog 52 #[WV ps u, WV ps v] W _) := fun u v W => cmpW_any ps u v W)
  have HRo : Hid (∀ (l1 : List Nat) (x y z : Nat) (W : World), l1.Perm l → x < y → y < z → z ≤ l.length → SRow ps W g l1 rest → Calls Try.prog 74 #[.slice (some ⟨g, 0, none⟩) l.length cap, .int .i64 (x : Nat), .int .i64 (y : Nat), .int .i64 (z : Nat), .func (.func 52) #[] #[]] W fun e w' => SortP ps g l1 rest W e w') := fun l1 x y z W hp q1 q2 q3 q4 => by
    (have := rotate_any (ps := ps) g cap (.func (.func 52) #[] #[]) rest l1 (by rw [hp.length_eq]; exact hl) (by rw [hp.length_eq]; exact hc) x y z q1 q2 (by rw [hp.length_eq]; exact q3) W q4)
    rwa [hp.length_eq] at this
  have HIH : Hid (∀ (l1 : List Nat) (x y z : Nat) (W : World), l1.Perm l → x < y → y < z → z ≤ l.length → z - x < fuel → SRow ps W g l1 rest → Calls Try.prog 71 #[.slice (some ⟨g, 0, none⟩) l.length cap, .int .i64 (x : Nat), .int .i64 (y : Nat), .int .i64 (z : Nat), .func (.func 52) #[] #[]] W fun e w' => SortP ps g l1 rest W e w') := fun l1 x y z W hp q1 q2 q3 q4 q5 => by
    (have := ih l1 x y z W (by rw [hp.length_eq]; exact hl) (by rw [hp.length_eq]; exact hc) q1 q2 (by rw [hp.length_eq]; exact q3) q4 q5)
    rwa [hp.length_eq] at this
  have hcf := worlds1_in; have HO : Hid (lo < md ∧ md < hi ∧ hi ≤ l.length ∧ l.length ≤ 100000 ∧ l.length ≤ cap ∧ hi - lo < fuel + 1) := ⟨h1, h2, h3, hl, hc, h4⟩; (have hlI : (l.length : Int) ≤ 100000 := by omega); (have hmI : (md : Int) ≤ 100000 := by omega); (have hhI9 : (hi : Int) ≤ 100000 := by omega); (have hloI : (lo : Int) ≤ 100000 := by omega); unfold WV at HCm; obtain ⟨ml, hml0⟩ : ∃ ml, ml = md - lo := ⟨_, rfl⟩; (have hml : (md : Int) - (lo : Int) = (ml : Int) := by omega); (have hml1 : ((ml : Int) == 1) = false := by simp; omega); obtain ⟨hm, hhm0⟩ : ∃ ml, ml = hi - md := ⟨_, rfl⟩; (have hhm : (hi : Int) - (md : Int) = (hm : Int) := by omega); (have hhm1 : ((hm : Int) == 1) = false := by simp; omega); obtain ⟨mid, hmid⟩ : ∃ mid, mid = (lo + hi) / 2 := ⟨_, rfl⟩; (have hmidI : ((lo : Int) + (hi : Int)) / 2 = (mid : Int) := by omega); obtain ⟨nn, hnn⟩ : ∃ nn, nn = mid + md := ⟨_, rfl⟩; (have hnnI : (mid : Int) + (md : Int) = (nn : Int) := by omega); obtain ⟨pp, hpp⟩ : ∃ pp, pp = nn - 1 := ⟨_, rfl⟩; (have hppI : (nn : Int) - 1 = (pp : Int) := by omega); (have hmid2 : (mid : Int) ≤ 100000 := by omega); (have hnn2 : (nn : Int) ≤ 200000 := by omega); (have hpp2 : (pp : Int) ≤ 200000 := by omega); (have HMid : Hid (lo < mid ∧ mid < hi) := by show _ ∧ _; omega); (have HN : Hid (nn = mid + md ∧ pp = nn - 1 ∧ mid = (lo + hi) / 2 ∧ md ≤ mid) := ⟨hnn, hpp, hmid, by rw [hmid]; exact hcase.2.2⟩); (have hgt : decide (mid < md) = false := decide_eq_false (by omega)); clear hml0 hhm0 hmid hnn hpp; clear h1 h2 h3 h4 hl hc hr ih hcase
  go_enter Try.func71, Try.ntmps71
  go_wp2_with fail; clear hml hml1 hhm hhm1 hmidI hnnI hppI hgt
  go_loopg [20, 21] (md - lo) (fun gg c d wr => ∃ i j, gg = j - i ∧ c = .int .i64 (i : Nat) ∧ d = .int .i64 (j : Nat) ∧ Hid (lo ≤ i ∧ i ≤ j ∧ j ≤ md) ∧ Hid (Below w.heap.size w wr))
  case atStart => exact ⟨lo, md, rfl, by go_num, by go_num, by have := HO.out; show _ ∧ _; omega, Below.refl _ _⟩
  case round =>
    obtain ⟨i, j, hg, rfl, rfl, HIJ, HB⟩ := hrel; have HGk : Hid (gk = j - i) := hg; (have hiI : (i : Int) ≤ 100000 := by have := HIJ.out; have := HO.out; omega); (have hjI : (j : Int) ≤ 100000 := by have := HIJ.out; have := HO.out; omega); clear hg; by_cases hij : i < j
    · obtain ⟨hx, hhx⟩ : ∃ hx, hx = (i + j) / 2 := ⟨_, rfl⟩
      (have hhI : ((i : Int) + (j : Int)) / 2 = (hx : Int) := by omega); (have HX : Hid (i ≤ hx ∧ hx < j) := by show _ ∧ _; omega); (have hxI : (hx : Int) ≤ 100000 := by have := HX.out; omega); obtain ⟨pc, hpc⟩ : ∃ pc, pc = pp - hx := ⟨_, rfl⟩; (have hpcI : (pp : Int) - (hx : Int) = (pc : Int) := by have := HN.out; have := HX.out; have := HIJ.out; have := HO.out; omega); have HPc : Hid (pc = pp - hx) := hpc; (have hpcw : IntKind.i64.wrap (pc : Int) = (pc : Int) := wrap_small pc (by have := HN.out; have := HO.out; omega)); (have HPl : Hid (pc < l.length) := by have := HN.out; have := HX.out; have := HIJ.out; have := HO.out; show _ < _; omega); have hpl := HPl.out; (obtain ⟨xa, hxa⟩ : ∃ x, l[pc]? = some x := ⟨_, List.getElem?_eq_getElem (by have := HO.out; have := HX.out; have := HIJ.out; omega)⟩); (obtain ⟨xb, hxb⟩ : ∃ x, l[hx]? = some x := ⟨_, List.getElem?_eq_getElem (by have := HO.out; have := HX.out; have := HIJ.out; omega)⟩); have HXa : Hid (l[pc]? = some xa) := hxa; have HXb : Hid (l[hx]? = some xb) := hxb; (have b1 : (pc : Int) < (l.length : Int) := by have := HO.out; have := HX.out; have := HIJ.out; omega); (have b2 : (hx : Int) < (l.length : Int) := by have := HO.out; have := HX.out; have := HIJ.out; omega); (have b3 : (pc : Int) < (cap : Int) := by have := HO.out; omega); (have b4 : (hx : Int) < (cap : Int) := by have := HO.out; omega); clear hxa hxb hhx hpl hpc; go_wp2_with fail; clear hij hhI; (refine wp_region_free (by kernel_rfl) [fun v _ => v = (.func (.func 52) #[] #[]), fun v _ => v = (.slice (some ⟨g, 0, none⟩) l.length cap), fun v _ => v = (.int .i64 (pp : Nat)), fun v _ => v = (.int .i64 (hx : Nat)), fun v _ => v = (.int .i64 (pc : Nat)), fun v _ => v = (.pointer (some ⟨g, pc * 3, none⟩)), fun v _ => v = (.agg #[.int .u64 (xa : Nat), .int .u64 (bm ps.length (wnB ps xa) : Nat), .int .u64 (bm ps.length (swB ps xa) : Nat)]), fun v _ => v = (.slice (some ⟨g, 0, none⟩) l.length cap), fun v _ => v = (.int .i64 (hx : Nat)), fun v _ => v = (.pointer (some ⟨g, hx * 3, none⟩)), fun v _ => v = (.agg #[.int .u64 (xb : Nat), .int .u64 (bm ps.length (wnB ps xb) : Nat), .int .u64 (bm ps.length (swB ps xb) : Nat)]), kInt, kBo, kBo] ?_ (by kernel_rfl) (by kernel_rfl) 220 rfl (by kernel_rfl) ?_ ?_)
      · intro p hp
        simp only [List.mem_cons, List.not_mem_nil, or_false] at hp
        rcases hp with rfl | rfl | rfl | rfl | rfl | rfl | rfl | rfl | rfl | rfl | rfl | rfl | rfl | rfl
        · exact fun _ _ _ h _ => h
        · exact fun _ _ _ h _ => h
        · exact fun _ _ _ h _ => h
        · exact fun _ _ _ h _ => h
        · exact fun _ _ _ h _ => h
        · exact fun _ _ _ h _ => h
        · exact fun _ _ _ h _ => h
        · exact fun _ _ _ h _ => h
        · exact fun _ _ _ h _ => h
        · exact fun _ _ _ h _ => h
        · exact fun _ _ _ h _ => h
        · exact kInt_stays
        · exact kBo_stays
        · exact kBo_stays
      · refine ⟨?_, ?_, ?_, ?_, ?_, ?_, ?_, ?_, ?_, ?_, ?_, ?_, ?_, ?_, trivial⟩
        · intro a wx hB hold hdep K hK
          have t4 : a.tmps[4]? = some (.func (.func 52) #[] #[]) := hold.2.2 4 rfl; clear hold hdep; go_simp; exact hK.out _ _ rfl (Below.refl _ _)
        · intro a wx hB hold hdep K hK
          have t0 : a.tmps[0]? = some (.slice (some ⟨g, 0, none⟩) l.length cap) := hold.2.2 0 rfl; clear hold hdep; go_simp; exact hK.out _ _ rfl (Below.refl _ _)
        · intro a wx hB hold hdep K hK
          have t22 : a.tmps[22]? = some (.int .i64 (pp : Nat)) := hold.2.2 22 rfl; clear hold hdep; go_simp; exact hK.out _ _ rfl (Below.refl _ _)
        · intro a wx hB hold hdep K hK
          have t23 : a.tmps[23]? = some (.int .i64 (hx : Nat)) := hold.2.2 23 rfl; clear hold hdep; go_simp; exact hK.out _ _ rfl (Below.refl _ _)
        · intro a wx hB hold hdep K hK
          obtain ⟨v160, t160, p160⟩ := hdep 2 rfl _ 160 rfl rfl; have e160 : v160 = (.int .i64 (pp : Nat)) := p160; subst e160; obtain ⟨v161, t161, p161⟩ := hdep 3 rfl _ 161 rfl rfl; have e161 : v161 = (.int .i64 (hx : Nat)) := p161; subst e161; clear hold hdep; go_simp; exact hK.out _ _ rfl (Below.refl _ _)
        · intro a wx hB hold hdep K hK
          obtain ⟨v159, t159, p159⟩ := hdep 1 rfl _ 159 rfl rfl; have e159 : v159 = (.slice (some ⟨g, 0, none⟩) l.length cap) := p159; subst e159; obtain ⟨v162, t162, p162⟩ := hdep 4 rfl _ 162 rfl rfl; have e162 : v162 = (.int .i64 (pc : Nat)) := p162; subst e162; clear hold hdep; go_simp; exact hK.out _ _ rfl (Below.refl _ _)
        · intro a wx hB hold hdep K hK
          obtain ⟨v163, t163, p163⟩ := hdep 5 rfl _ 163 rfl rfl; have e163 : v163 = (.pointer (some ⟨g, pc * 3, none⟩)) := p163; subst e163; obtain ⟨q0, q1, q2, -⟩ := ((HR.out.up HB.out).up hB).cells HXa.out; clear hold hdep; go_simp; exact hK.out _ _ rfl (Below.refl _ _)
        · intro a wx hB hold hdep K hK
          have t0 : a.tmps[0]? = some (.slice (some ⟨g, 0, none⟩) l.length cap) := hold.2.2 0 rfl; clear hold hdep; go_simp; exact hK.out _ _ rfl (Below.refl _ _)
        · intro a wx hB hold hdep K hK
          have t23 : a.tmps[23]? = some (.int .i64 (hx : Nat)) := hold.2.2 23 rfl; clear hold hdep; go_simp; exact hK.out _ _ rfl (Below.refl _ _)
        · intro a wx hB hold hdep K hK
          obtain ⟨v165, t165, p165⟩ := hdep 7 rfl _ 165 rfl rfl; have e165 : v165 = (.slice (some ⟨g, 0, none⟩) l.length cap) := p165; subst e165; obtain ⟨v166, t166, p166⟩ := hdep 8 rfl _ 166 rfl rfl; have e166 : v166 = (.int .i64 (hx : Nat)) := p166; subst e166; clear hold hdep; go_simp; exact hK.out _ _ rfl (Below.refl _ _)
        · intro a wx hB hold hdep K hK
          obtain ⟨v167, t167, p167⟩ := hdep 9 rfl _ 167 rfl rfl; have e167 : v167 = (.pointer (some ⟨g, hx * 3, none⟩)) := p167; subst e167; obtain ⟨q0, q1, q2, -⟩ := ((HR.out.up HB.out).up hB).cells HXb.out; clear hold hdep; go_simp; exact hK.out _ _ rfl (Below.refl _ _)
        · intro a wx hB hold hdep K hK
          obtain ⟨v158, t158, p158⟩ := hdep 0 rfl _ 158 rfl rfl; have e158 : v158 = (.func (.func 52) #[] #[]) := p158; subst e158; obtain ⟨v164, t164, p164⟩ := hdep 6 rfl _ 164 rfl rfl; have e164 : v164 = (.agg #[.int .u64 (xa : Nat), .int .u64 (bm ps.length (wnB ps xa) : Nat), .int .u64 (bm ps.length (swB ps xa) : Nat)]) := p164; subst e164; obtain ⟨v168, t168, p168⟩ := hdep 10 rfl _ 168 rfl rfl; have e168 : v168 = (.agg #[.int .u64 (xb : Nat), .int .u64 (bm ps.length (wnB ps xb) : Nat), .int .u64 (bm ps.length (swB ps xb) : Nat)]) := p168; subst e168; have HW : Hid (Calls Try.prog 52 #[.agg #[.int .u64 (xa : Nat), .int .u64 (bm ps.length (wnB ps xa) : Nat), .int .u64 (bm ps.length (swB ps xa) : Nat)], .agg #[.int .u64 (xb : Nat), .int .u64 (bm ps.length (wnB ps xb) : Nat), .int .u64 (bm ps.length (swB ps xb) : Nat)]] wx _) := HCm.out xa xb wx; clear hold hdep; go_simp; refine HW.out.mono ?_; rintro _ w9 ⟨⟨c9, rfl⟩, hb9⟩; go_simp; exact hK.out _ _ ⟨_, rfl⟩ hb9
        · intro a wx hB hold hdep K hK
          obtain ⟨v169, t169, p169⟩ := hdep 11 rfl _ 169 rfl rfl; have P169 : Hid ((kInt) v169 wx) := p169; clear p169; obtain ⟨c9, rfl⟩ := P169.out; clear P169; clear hold hdep; go_simp; exact hK.out _ _ ⟨_, rfl⟩ (Below.refl _ _)
        · intro a wx hB hold hdep K hK
          obtain ⟨v170, t170, p170⟩ := hdep 12 rfl _ 170 rfl rfl; have P170 : Hid ((kBo) v170 wx) := p170; clear p170; obtain ⟨c9, rfl⟩ := P170.out; clear P170; clear hold hdep; go_simp; exact hK.out _ _ ⟨_, rfl⟩ (Below.refl _ _)
      · intro a wx hB hold hgot
        obtain ⟨vZ, tvZ, pvZ⟩ := hgot 13 _ 171 rfl rfl; obtain ⟨bz, rfl⟩ := pvZ; have HBx : Hid (Below wr.heap.size wr wx) := hB; obtain ⟨tm, df⟩ := a; (obtain ⟨ys, hys, htm, rfl⟩ := frame_mid2 158 14 (by kernel_rfl) (Nat.le_of_ble_eq_true rfl) hold); obtain ⟨x158, x159, x160, x161, x162, x163, x164, x165, x166, x167, x168, x169, x170, x171, rfl⟩ := rowW14 ys hys; simp only [List.take_succ_cons, List.take_zero, List.drop_succ_cons, List.drop_zero, List.cons_append, List.nil_append] at htm; subst htm; obtain rfl : x171 = _ := someInjM tvZ; clear hys hold hgot tvZ hB; have HB2 : Hid (Below w.heap.size w wx) := below_join HB.out HBx.out; clear HBx HXa HXb
        cases bz
        · go_wp2_with fail
          go_roundg (hx - i)
          case measure => have := HGk.out; have := HX.out; omega
          case rel => exact ⟨i, hx, rfl, by go_num, by go_num, by have := HX.out; have := HIJ.out; show _ ∧ _; omega, HB2⟩
        · go_wp2_with fail
          go_roundg (j - (hx + 1))
          case measure => have := HGk.out; have := HX.out; omega
          case rel => exact ⟨hx + 1, j, rfl, by go_num, by go_num, by have := HX.out; have := HIJ.out; show _ ∧ _; omega, HB2⟩
    · have hij2 : decide (i < j) = false := decide_eq_false hij
      (have HE : Hid (i = j) := by have := HIJ.out; show _ = _; omega); clear hij; obtain ⟨en, hen⟩ : ∃ en, en = nn - i := ⟨_, rfl⟩; (have henI : (nn : Int) - (i : Int) = (en : Int) := by have := HN.out; have := HIJ.out; have := HO.out; omega); (have HEn : Hid (en ≤ hi ∧ mid ≤ en + 0 ∧ lo ≤ i ∧ i ≤ mid ∧ i ≤ md ∧ en = nn - i) := by have := HN.out; have := HIJ.out; have := HO.out; show _ ∧ _; omega); (have hen2 : (en : Int) ≤ 100000 := by have := HEn.out; have := HO.out; omega); have HRw : Hid (SRow ps wr g l rest) := HR.out.up HB.out; (have HKw : Hid (Kept (fun b => b ≠ g) w wr) := Kept.belowK (Kept.refl _ _) HB.out); have HPw : Hid (l.Perm l) := List.Perm.refl _; clear hen; by_cases k0 : i < md
      · by_cases m0 : md < en
        · go_wp2_with fail
          (refine (HRo.out l i md en wr HPw.out (by omega) (by omega) (by have := HEn.out; have := HO.out; have := HMid.out; omega) HRw.out).mono ?_); rintro _ u5 ⟨l5, h1, rfl, h3, h4⟩; have P5 : Hid (l5.Perm l) := h1.trans HPw.out; have R5 : Hid (SRow ps u5 g l5 rest) := h3; (have K5 : Hid (Kept (fun b => b ≠ g) w u5) := keptW_on HKw.out h4 fun _ _ h => h); clear h1 h3 h4; by_cases k1 : lo < i
          · by_cases m1 : i < mid
            · go_wp2_with fail
              (refine (HIH.out l5 lo i mid u5 P5.out (by omega) (by omega) (by have := HEn.out; have := HO.out; have := HMid.out; omega) (by have := HEn.out; have := HO.out; have := HMid.out; omega) R5.out).mono ?_); rintro _ u6 ⟨l6, h1, rfl, h3, h4⟩; have P6 : Hid (l6.Perm l) := h1.trans P5.out; have R6 : Hid (SRow ps u6 g l6 rest) := h3; (have K6 : Hid (Kept (fun b => b ≠ g) w u6) := keptW_on K5.out h4 fun _ _ h => h); clear h1 h3 h4; by_cases k2 : mid < en
              · by_cases m2 : en < hi
                · go_wp2_with fail
                  (refine (HIH.out l6 mid en hi u6 P6.out (by omega) (by omega) (by have := HEn.out; have := HO.out; have := HMid.out; omega) (by have := HEn.out; have := HO.out; have := HMid.out; omega) R6.out).mono ?_); rintro _ u7 ⟨l7, h1, rfl, h3, h4⟩; have P7 : Hid (l7.Perm l) := h1.trans P6.out; have R7 : Hid (SRow ps u7 g l7 rest) := h3; (have K7 : Hid (Kept (fun b => b ≠ g) w u7) := keptW_on K6.out h4 fun _ _ h => h); clear h1 h3 h4; go_wp2_with fail
                  go_end0
                  exact ⟨l7, P7.out, rfl, R7.out, K7.out⟩
                · have d2 : decide (en < hi) = false := decide_eq_false m2
                  go_wp2_with fail
                  go_end0
                  exact ⟨l6, P6.out, rfl, R6.out, K6.out⟩
              · have d2 : decide (mid < en) = false := decide_eq_false k2
                go_wp2_with fail
                go_end0
                exact ⟨l6, P6.out, rfl, R6.out, K6.out⟩
            · have d1 : decide (i < mid) = false := decide_eq_false m1
              by_cases k2 : mid < en
              · by_cases m2 : en < hi
                · go_wp2_with fail
                  (refine (HIH.out l5 mid en hi u5 P5.out (by omega) (by omega) (by have := HEn.out; have := HO.out; have := HMid.out; omega) (by have := HEn.out; have := HO.out; have := HMid.out; omega) R5.out).mono ?_); rintro _ u7 ⟨l7, h1, rfl, h3, h4⟩; have P7 : Hid (l7.Perm l) := h1.trans P5.out; have R7 : Hid (SRow ps u7 g l7 rest) := h3; (have K7 : Hid (Kept (fun b => b ≠ g) w u7) := keptW_on K5.out h4 fun _ _ h => h); clear h1 h3 h4; go_wp2_with fail
                  go_end0
                  exact ⟨l7, P7.out, rfl, R7.out, K7.out⟩
                · have d2 : decide (en < hi) = false := decide_eq_false m2
                  go_wp2_with fail
                  go_end0
                  exact ⟨l5, P5.out, rfl, R5.out, K5.out⟩
              · have d2 : decide (mid < en) = false := decide_eq_false k2
                go_wp2_with fail
                go_end0
                exact ⟨l5, P5.out, rfl, R5.out, K5.out⟩
          · have d1 : decide (lo < i) = false := decide_eq_false k1
            by_cases k2 : mid < en
            · by_cases m2 : en < hi
              · go_wp2_with fail
                (refine (HIH.out l5 mid en hi u5 P5.out (by omega) (by omega) (by have := HEn.out; have := HO.out; have := HMid.out; omega) (by have := HEn.out; have := HO.out; have := HMid.out; omega) R5.out).mono ?_); rintro _ u7 ⟨l7, h1, rfl, h3, h4⟩; have P7 : Hid (l7.Perm l) := h1.trans P5.out; have R7 : Hid (SRow ps u7 g l7 rest) := h3; (have K7 : Hid (Kept (fun b => b ≠ g) w u7) := keptW_on K5.out h4 fun _ _ h => h); clear h1 h3 h4; go_wp2_with fail
                go_end0
                exact ⟨l7, P7.out, rfl, R7.out, K7.out⟩
              · have d2 : decide (en < hi) = false := decide_eq_false m2
                go_wp2_with fail
                go_end0
                exact ⟨l5, P5.out, rfl, R5.out, K5.out⟩
            · have d2 : decide (mid < en) = false := decide_eq_false k2
              go_wp2_with fail
              go_end0
              exact ⟨l5, P5.out, rfl, R5.out, K5.out⟩
        · have d0 : decide (md < en) = false := decide_eq_false m0
          by_cases k1 : lo < i
          · by_cases m1 : i < mid
            · go_wp2_with fail
              (refine (HIH.out l lo i mid wr HPw.out (by omega) (by omega) (by have := HEn.out; have := HO.out; have := HMid.out; omega) (by have := HEn.out; have := HO.out; have := HMid.out; omega) HRw.out).mono ?_); rintro _ u6 ⟨l6, h1, rfl, h3, h4⟩; have P6 : Hid (l6.Perm l) := h1.trans HPw.out; have R6 : Hid (SRow ps u6 g l6 rest) := h3; (have K6 : Hid (Kept (fun b => b ≠ g) w u6) := keptW_on HKw.out h4 fun _ _ h => h); clear h1 h3 h4; by_cases k2 : mid < en
              · by_cases m2 : en < hi
                · go_wp2_with fail
                  (refine (HIH.out l6 mid en hi u6 P6.out (by omega) (by omega) (by have := HEn.out; have := HO.out; have := HMid.out; omega) (by have := HEn.out; have := HO.out; have := HMid.out; omega) R6.out).mono ?_); rintro _ u7 ⟨l7, h1, rfl, h3, h4⟩; have P7 : Hid (l7.Perm l) := h1.trans P6.out; have R7 : Hid (SRow ps u7 g l7 rest) := h3; (have K7 : Hid (Kept (fun b => b ≠ g) w u7) := keptW_on K6.out h4 fun _ _ h => h); clear h1 h3 h4; go_wp2_with fail
                  go_end0
                  exact ⟨l7, P7.out, rfl, R7.out, K7.out⟩
                · have d2 : decide (en < hi) = false := decide_eq_false m2
                  go_wp2_with fail
                  go_end0
                  exact ⟨l6, P6.out, rfl, R6.out, K6.out⟩
              · have d2 : decide (mid < en) = false := decide_eq_false k2
                go_wp2_with fail
                go_end0
                exact ⟨l6, P6.out, rfl, R6.out, K6.out⟩
            · have d1 : decide (i < mid) = false := decide_eq_false m1
              by_cases k2 : mid < en
              · by_cases m2 : en < hi
                · go_wp2_with fail
                  (refine (HIH.out l mid en hi wr HPw.out (by omega) (by omega) (by have := HEn.out; have := HO.out; have := HMid.out; omega) (by have := HEn.out; have := HO.out; have := HMid.out; omega) HRw.out).mono ?_); rintro _ u7 ⟨l7, h1, rfl, h3, h4⟩; have P7 : Hid (l7.Perm l) := h1.trans HPw.out; have R7 : Hid (SRow ps u7 g l7 rest) := h3; (have K7 : Hid (Kept (fun b => b ≠ g) w u7) := keptW_on HKw.out h4 fun _ _ h => h); clear h1 h3 h4; go_wp2_with fail
                  go_end0
                  exact ⟨l7, P7.out, rfl, R7.out, K7.out⟩
                · have d2 : decide (en < hi) = false := decide_eq_false m2
                  go_wp2_with fail
                  go_end0
                  exact ⟨l, HPw.out, rfl, HRw.out, HKw.out⟩
              · have d2 : decide (mid < en) = false := decide_eq_false k2
                go_wp2_with fail
                go_end0
                exact ⟨l, HPw.out, rfl, HRw.out, HKw.out⟩
          · have d1 : decide (lo < i) = false := decide_eq_false k1
            by_cases k2 : mid < en
            · by_cases m2 : en < hi
              · go_wp2_with fail
                (refine (HIH.out l mid en hi wr HPw.out (by omega) (by omega) (by have := HEn.out; have := HO.out; have := HMid.out; omega) (by have := HEn.out; have := HO.out; have := HMid.out; omega) HRw.out).mono ?_); rintro _ u7 ⟨l7, h1, rfl, h3, h4⟩; have P7 : Hid (l7.Perm l) := h1.trans HPw.out; have R7 : Hid (SRow ps u7 g l7 rest) := h3; (have K7 : Hid (Kept (fun b => b ≠ g) w u7) := keptW_on HKw.out h4 fun _ _ h => h); clear h1 h3 h4; go_wp2_with fail
                go_end0
                exact ⟨l7, P7.out, rfl, R7.out, K7.out⟩
              · have d2 : decide (en < hi) = false := decide_eq_false m2
                go_wp2_with fail
                go_end0
                exact ⟨l, HPw.out, rfl, HRw.out, HKw.out⟩
            · have d2 : decide (mid < en) = false := decide_eq_false k2
              go_wp2_with fail
              go_end0
              exact ⟨l, HPw.out, rfl, HRw.out, HKw.out⟩
      · have d0 : decide (i < md) = false := decide_eq_false k0
        by_cases k1 : lo < i
        · by_cases m1 : i < mid
          · go_wp2_with fail
            (refine (HIH.out l lo i mid wr HPw.out (by omega) (by omega) (by have := HEn.out; have := HO.out; have := HMid.out; omega) (by have := HEn.out; have := HO.out; have := HMid.out; omega) HRw.out).mono ?_); rintro _ u6 ⟨l6, h1, rfl, h3, h4⟩; have P6 : Hid (l6.Perm l) := h1.trans HPw.out; have R6 : Hid (SRow ps u6 g l6 rest) := h3; (have K6 : Hid (Kept (fun b => b ≠ g) w u6) := keptW_on HKw.out h4 fun _ _ h => h); clear h1 h3 h4; by_cases k2 : mid < en
            · by_cases m2 : en < hi
              · go_wp2_with fail
                (refine (HIH.out l6 mid en hi u6 P6.out (by omega) (by omega) (by have := HEn.out; have := HO.out; have := HMid.out; omega) (by have := HEn.out; have := HO.out; have := HMid.out; omega) R6.out).mono ?_); rintro _ u7 ⟨l7, h1, rfl, h3, h4⟩; have P7 : Hid (l7.Perm l) := h1.trans P6.out; have R7 : Hid (SRow ps u7 g l7 rest) := h3; (have K7 : Hid (Kept (fun b => b ≠ g) w u7) := keptW_on K6.out h4 fun _ _ h => h); clear h1 h3 h4; go_wp2_with fail
                go_end0
                exact ⟨l7, P7.out, rfl, R7.out, K7.out⟩
              · have d2 : decide (en < hi) = false := decide_eq_false m2
                go_wp2_with fail
                go_end0
                exact ⟨l6, P6.out, rfl, R6.out, K6.out⟩
            · have d2 : decide (mid < en) = false := decide_eq_false k2
              go_wp2_with fail
              go_end0
              exact ⟨l6, P6.out, rfl, R6.out, K6.out⟩
          · have d1 : decide (i < mid) = false := decide_eq_false m1
            by_cases k2 : mid < en
            · by_cases m2 : en < hi
              · go_wp2_with fail
                (refine (HIH.out l mid en hi wr HPw.out (by omega) (by omega) (by have := HEn.out; have := HO.out; have := HMid.out; omega) (by have := HEn.out; have := HO.out; have := HMid.out; omega) HRw.out).mono ?_); rintro _ u7 ⟨l7, h1, rfl, h3, h4⟩; have P7 : Hid (l7.Perm l) := h1.trans HPw.out; have R7 : Hid (SRow ps u7 g l7 rest) := h3; (have K7 : Hid (Kept (fun b => b ≠ g) w u7) := keptW_on HKw.out h4 fun _ _ h => h); clear h1 h3 h4; go_wp2_with fail
                go_end0
                exact ⟨l7, P7.out, rfl, R7.out, K7.out⟩
              · have d2 : decide (en < hi) = false := decide_eq_false m2
                go_wp2_with fail
                go_end0
                exact ⟨l, HPw.out, rfl, HRw.out, HKw.out⟩
            · have d2 : decide (mid < en) = false := decide_eq_false k2
              go_wp2_with fail
              go_end0
              exact ⟨l, HPw.out, rfl, HRw.out, HKw.out⟩
        · have d1 : decide (lo < i) = false := decide_eq_false k1
          by_cases k2 : mid < en
          · by_cases m2 : en < hi
            · go_wp2_with fail
              (refine (HIH.out l mid en hi wr HPw.out (by omega) (by omega) (by have := HEn.out; have := HO.out; have := HMid.out; omega) (by have := HEn.out; have := HO.out; have := HMid.out; omega) HRw.out).mono ?_); rintro _ u7 ⟨l7, h1, rfl, h3, h4⟩; have P7 : Hid (l7.Perm l) := h1.trans HPw.out; have R7 : Hid (SRow ps u7 g l7 rest) := h3; (have K7 : Hid (Kept (fun b => b ≠ g) w u7) := keptW_on HKw.out h4 fun _ _ h => h); clear h1 h3 h4; go_wp2_with fail
              go_end0
              exact ⟨l7, P7.out, rfl, R7.out, K7.out⟩
            · have d2 : decide (en < hi) = false := decide_eq_false m2
              go_wp2_with fail
              go_end0
              exact ⟨l, HPw.out, rfl, HRw.out, HKw.out⟩
          · have d2 : decide (mid < en) = false := decide_eq_false k2
            go_wp2_with fail
            go_end0
            exact ⟨l, HPw.out, rfl, HRw.out, HKw.out⟩
theorem symm_all {ps : List PartM} (g cap : Nat) (rest : List Value) : ∀ fuel, SymS ps g cap rest fuel
  | 0 => fun _ _ _ _ _ _ _ _ _ _ h => absurd h (Nat.not_lt_zero _)
  | fuel + 1 => fun l lo md hi w hl hc h1 h2 h3 h4 hr => by
    have ih := symm_all (ps := ps) g cap rest fuel; by_cases c1 : md - lo = 1
    · exact symm_one g cap rest fuel ih l lo md hi w hl hc h1 h2 h3 h4 hr c1
    by_cases c2 : hi - md = 1
    · exact symm_two g cap rest fuel ih l lo md hi w hl hc h1 h2 h3 h4 hr ⟨c1, c2⟩
    rcases Nat.lt_or_ge ((lo + hi) / 2) md with c3 | c3
    · exact symm_gt g cap rest fuel ih l lo md hi w hl hc h1 h2 h3 h4 hr ⟨c1, c2, c3⟩
    · exact symm_le g cap rest fuel ih l lo md hi w hl hc h1 h2 h3 h4 hr ⟨c1, c2, c3⟩
end Go.Proofs.Ytmahgfgndfcmpah
