/- Texts of one proof, one behind the other: MLD. -/
import Derived.Test.YtmahgfgndfcmpagB21
import Derived.Test.YtmahgfgndfcmpagB18
/- Walks: what a world sees among others (modlog.finder: seenFrom, isAllowed, isContent). -/
namespace Go.Proofs.Ytmahgfgndfcmpag
open Go.RowKit Go.Sort

/-- A finder in memory. -/
def FdAt (w : World) (bF bt fn : Nat) (cap : Array Value) (its sm : Bool) (ad9 : Option Addr) (n9 cp9 : Nat) : Prop := w.heap[bF]? = some (.cells #[.pointer (some ⟨bt, 0, none⟩), .func (.func fn) #[] cap, .bool its, .bool sm, .slice ad9 n9 cp9] 140 (0, 0))
theorem blkF {w : World} {b : Nat} {c0 c1 c2 c3 c4 : Value} {T : TypeId} (h : w.heap[b]? = some (.cells #[c0, c1, c2, c3, c4] T (0, 0))) : w.cell? ⟨b, 0, none⟩ = some c0 ∧ w.cell? ⟨b, 1, none⟩ = some c1 ∧ w.cell? ⟨b, 2, none⟩ = some c2 ∧ w.cell? ⟨b, 3, none⟩ = some c3 ∧ w.cell? ⟨b, 4, none⟩ = some c4 ∧ w.frozen? ⟨b, 4, none⟩ = false :=
  ⟨blk_cell h 0, blk_cell h 1, blk_cell h 2, blk_cell h 3, blk_cell h 4, blk_fz h 4⟩
/-- A list of worlds in memory, wherever it lies. -/
def WL (ps : List PartM) (w : World) (v : Value) (l : List Nat) : Prop := ∃ ad cap, v = .slice ad l.length cap ∧ l.length ≤ cap ∧ cap ≤ maxLen ∧ (l ≠ [] → ∃ g, ad = some ⟨g, 0, none⟩ ∧ ∀ (j x : Nat), l[j]? = some x → w.cell? ⟨g, j * 3, none⟩ = some (.int .u64 (x : Nat)) ∧ w.cell? ⟨g, j * 3 + 1, none⟩ = some (.int .u64 (bm ps.length (wnB ps x) : Nat)) ∧ w.cell? ⟨g, j * 3 + 2, none⟩ = some (.int .u64 (bm ps.length (swB ps x) : Nat)))
theorem WL.up {ps : List PartM} {w w' : World} {v : Value} {l : List Nat} (h : WL ps w v l) (hb : Below w.heap.size w w') : WL ps w' v l := by
  obtain ⟨ad, cap, h1, h2, h3, h4⟩ := h; (refine ⟨ad, cap, h1, h2, h3, fun hne => ?_⟩); obtain ⟨g, h5, h6⟩ := h4 hne; (refine ⟨g, h5, fun j x hj => ?_⟩); obtain ⟨a, b, c⟩ := h6 j x hj; exact ⟨(hb.cell (lt_of_cell a)).trans a, (hb.cell (lt_of_cell b)).trans b, (hb.cell (lt_of_cell c)).trans c⟩
theorem WL.srow {ps : List PartM} {w : World} {g cap : Nat} {l : List Nat} {rest : List Value} (h : SRow ps w g l rest) (h1 : l.length ≤ cap) (h2 : cap ≤ maxLen) : WL ps w (.slice (some ⟨g, 0, none⟩) l.length cap) l :=
  ⟨_, cap, rfl, h1, h2, fun _ => ⟨g, rfl, fun _ _ hj => ⟨(h.cells hj).1, (h.cells hj).2.1, (h.cells hj).2.2.1⟩⟩⟩
theorem WL.own {ps : List PartM} {w : World} {B cp : Nat} {ad : Option Addr} {l : List Nat} (h : w.ownsRow B 104 3 (.slice ad l.length cp) l.length (encW ps l)) : WL ps w (.slice ad l.length cp) l := by
  obtain ⟨h1, h2⟩ := rowM_caps h; (refine ⟨ad, cp, rfl, h1, h2, fun hne => ?_⟩); obtain ⟨g, rest, rfl, -, hs⟩ := SRow.own h hne; (exact ⟨g, rfl, fun _ _ hj => ⟨(hs.cells hj).1, (hs.cells hj).2.1, (hs.cells hj).2.2.1⟩⟩)
theorem sees_snoc {l : List Nat} {i x : Nat} (h : l[i]? = some x) : l.take (i + 1) = l.take i ++ [x] := by
  rw [List.take_add_one, h]; rfl
theorem rowD8 (l : List Value) (h0 : l.length = 8) : ∃ x0 x1 x2 x3 x4 x5 x6 x7, l = [x0, x1, x2, x3, x4, x5, x6, x7] := by
  obtain ⟨x0, l1, e0, h1⟩ := cons_lenM h0; obtain ⟨x1, l2, e1, h2⟩ := cons_lenM h1; obtain ⟨x2, l3, e2, h3⟩ := cons_lenM h2; obtain ⟨x3, l4, e3, h4⟩ := cons_lenM h3; obtain ⟨x4, l5, e4, h5⟩ := cons_lenM h4; obtain ⟨x5, l6, e5, h6⟩ := cons_lenM h5; obtain ⟨x6, l7, e6, h7⟩ := cons_lenM h6; obtain ⟨x7, l8, e7, h8⟩ := cons_lenM h7; have e8 : l8 = [] := List.length_eq_zero_iff.1 h8; subst e8 e7 e6 e5 e4 e3 e2 e1 e0; exact ⟨x0, x1, x2, x3, x4, x5, x6, x7, rfl⟩
theorem rowD17 (l : List Value) (h0 : l.length = 17) : ∃ x0 x1 x2 x3 x4 x5 x6 x7 x8 x9 x10 x11 x12 x13 x14 x15 x16, l = [x0, x1, x2, x3, x4, x5, x6, x7, x8, x9, x10, x11, x12, x13, x14, x15, x16] := by
  obtain ⟨x0, l1, e0, h1⟩ := cons_lenM h0; obtain ⟨x1, l2, e1, h2⟩ := cons_lenM h1; obtain ⟨x2, l3, e2, h3⟩ := cons_lenM h2; obtain ⟨x3, l4, e3, h4⟩ := cons_lenM h3; obtain ⟨x4, l5, e4, h5⟩ := cons_lenM h4; obtain ⟨x5, l6, e5, h6⟩ := cons_lenM h5; obtain ⟨x6, l7, e6, h7⟩ := cons_lenM h6; obtain ⟨x7, l8, e7, h8⟩ := cons_lenM h7; obtain ⟨x8, l9, e8, h9⟩ := cons_lenM h8; obtain ⟨x9, l10, e9, h10⟩ := cons_lenM h9; obtain ⟨x10, l11, e10, h11⟩ := cons_lenM h10; obtain ⟨x11, l12, e11, h12⟩ := cons_lenM h11; obtain ⟨x12, l13, e12, h13⟩ := cons_lenM h12; obtain ⟨x13, l14, e13, h14⟩ := cons_lenM h13; obtain ⟨x14, l15, e14, h15⟩ := cons_lenM h14; obtain ⟨x15, l16, e15, h16⟩ := cons_lenM h15; obtain ⟨x16, l17, e16, h17⟩ := cons_lenM h16; have e17 : l17 = [] := List.length_eq_zero_iff.1 h17; subst e17 e16 e15 e14 e13 e12 e11 e10 e9 e8 e7 e6 e5 e4 e3 e2 e1 e0; exact ⟨x0, x1, x2, x3, x4, x5, x6, x7, x8, x9, x10, x11, x12, x13, x14, x15, x16, rfl⟩
theorem rowD12 (l : List Value) (h0 : l.length = 12) : ∃ x0 x1 x2 x3 x4 x5 x6 x7 x8 x9 x10 x11, l = [x0, x1, x2, x3, x4, x5, x6, x7, x8, x9, x10, x11] := by
  obtain ⟨x0, l1, e0, h1⟩ := cons_lenM h0; obtain ⟨x1, l2, e1, h2⟩ := cons_lenM h1; obtain ⟨x2, l3, e2, h3⟩ := cons_lenM h2; obtain ⟨x3, l4, e3, h4⟩ := cons_lenM h3; obtain ⟨x4, l5, e4, h5⟩ := cons_lenM h4; obtain ⟨x5, l6, e5, h6⟩ := cons_lenM h5; obtain ⟨x6, l7, e6, h7⟩ := cons_lenM h6; obtain ⟨x7, l8, e7, h8⟩ := cons_lenM h7; obtain ⟨x8, l9, e8, h9⟩ := cons_lenM h8; obtain ⟨x9, l10, e9, h10⟩ := cons_lenM h9; obtain ⟨x10, l11, e10, h11⟩ := cons_lenM h10; obtain ⟨x11, l12, e11, h12⟩ := cons_lenM h11; have e12 : l12 = [] := List.length_eq_zero_iff.1 h12; subst e12 e11 e10 e9 e8 e7 e6 e5 e4 e3 e2 e1 e0; exact ⟨x0, x1, x2, x3, x4, x5, x6, x7, x8, x9, x10, x11, rfl⟩
set_option maxRecDepth 10000 in
set_option maxHeartbeats 4000000 in
theorem seenW_any {ps : List PartM} (hL : ps.length ≤ 40) {fn : Nat} {cap : Array Value} {S : List PartM → Nat → Nat → Bool} {M : Nat → Prop} {Ok : World → Prop} (A : AskW fn cap S M Ok) (bF bt : Nat) (its sm : Bool) (ad9 : Option Addr) (n9 cp9 : Nat) (h : Nat) (l : List Nat) (hl : l.length ≤ 100000) (v : Value) (w : World) (hF : FdAt w bF bt fn cap its sm ad9 n9 cp9) (hok : Ok w) (hv : WL ps w v l) :
    Calls Try.prog 114 #[.pointer (some ⟨bF, 0, none⟩), WV ps h, v] w fun e w' => e = .returned (.tuple #[.int .u64 (bm ps.length (fun n => l.any fun x => S ps h x && swB ps x n) : Nat), .bool (l.any (S ps h))]) ∧ Below w.heap.size w w' := by
  (have HA : Hid (∀ (x : Nat) (w : World), Ok w → Calls Try.prog fn (#[WV ps h, WV ps x] ++ cap) w fun e w' => e = .returned (.bool (S ps h x)) ∧ Below w.heap.size w w') := fun x w hk => A.call ps h x w hL hk); (have HU : Hid (∀ w', Below w.heap.size w w' → Ok w') := fun w' hb => A.below hok hb); have hcf := A.ent; have HF : Hid (w.heap[bF]? = some (.cells #[.pointer (some ⟨bt, 0, none⟩), .func (.func fn) #[] cap, .bool its, .bool sm, .slice ad9 n9 cp9] 140 (0, 0))) := hF; have HL : Hid (ps.length ≤ 40) := hL; obtain ⟨ad, cp, rfl, h1, h2, h3⟩ := hv; have HV : Hid (l ≠ [] → ∃ g, ad = some ⟨g, 0, none⟩ ∧ ∀ (j x : Nat), l[j]? = some x → w.cell? ⟨g, j * 3, none⟩ = some (.int .u64 (x : Nat)) ∧ w.cell? ⟨g, j * 3 + 1, none⟩ = some (.int .u64 (bm ps.length (wnB ps x) : Nat)) ∧ w.cell? ⟨g, j * 3 + 2, none⟩ = some (.int .u64 (bm ps.length (swB ps x) : Nat))) := h3; (have hlI : (l.length : Int) ≤ 100000 := by omega); (have hcI : (l.length : Int) ≤ (cp : Int) := by omega); unfold WV at HA ⊢; obtain ⟨hw, hhw⟩ : ∃ x, x = bm ps.length (wnB ps h) := ⟨_, rfl⟩; obtain ⟨hs, hhs⟩ : ∃ x, x = bm ps.length (swB ps h) := ⟨_, rfl⟩; rw [← hhw, ← hhs] at HA ⊢; clear hhw hhs h1 h2 h3 hF hok A hL hl; obtain ⟨W, hW⟩ : ∃ W, W = w.alloc (.cells #[.int .u64 (h : Nat), .int .u64 (hw : Nat), .int .u64 (hs : Nat)] 104 (0, 0)) := ⟨_, rfl⟩; (have HB0 : Hid (Below w.heap.size w W) := by rw [hW]; exact below_more (Below.refl _ _) _); (have HH0 : Hid (W.heap[w.heap.size]? = some (.cells #[.int .u64 (h : Nat), .int .u64 (hw : Nat), .int .u64 (hs : Nat)] 104 (0, 0))) := by rw [hW]; exact blk_new _ _)
  go_enter Try.func114, Try.ntmps114
  go_wp2_with fail; rw [← hW]; clear hW
  go_loopg [12, 6, 7, 9] l.length (fun gg cc s z p9 wr => ∃ i x, i ≤ l.length ∧ gg = l.length - i ∧ cc = .int .i64 (i : Nat) ∧ s = .int .u64 (x : Nat) ∧ z = .bool ((l.take i).any (S ps h)) ∧ Hid (x = bm ps.length fun n => (l.take i).any fun x => S ps h x && swB ps x n) ∧ Hid (wr.heap[w.heap.size]? = some (.cells #[.int .u64 (h : Nat), .int .u64 (hw : Nat), .int .u64 (hs : Nat)] 104 (0, 0))) ∧ Hid (Below w.heap.size w wr))
  case atStart => exact ⟨0, 0, by omega, by omega, rfl, rfl, by rw [List.take_zero]; rfl, by show _ = _; rw [List.take_zero]; exact (bm_none _).symm, HH0, HB0⟩
  case round =>
    obtain ⟨i, x, hi, hg, rfl, rfl, rfl, HX, HH, HB⟩ := hrel; have HGk : Hid (gk = l.length - i) := hg; clear hg; by_cases hlt : i < l.length
    case neg =>
      (have hii : i = l.length := by omega); have hge : decide (i < l.length) = false := decide_eq_false hlt; rw [hii, List.take_length] at HX; (have hz : (l.take i).any (S ps h) = l.any (S ps h) := by rw [hii, List.take_length]); rw [hz]; clear hlt hi hii hz; go_wp2_with fail; (refine bodyPost_ret (v := .tuple #[.int .u64 (x : Nat), .bool (l.any (S ps h))]) (by simp [results, Try.results114, go_sem]) rfl ⟨?_, HB.out⟩); rw [HX.out]
    (have hltI : (i : Int) < (l.length : Int) := by omega); (have hltc : (i : Int) < (cp : Int) := by omega); have HI : Hid (i < l.length) := hlt; obtain ⟨y, hy⟩ : ∃ y, l[i]? = some y := ⟨_, List.getElem?_eq_getElem hlt⟩; have HY : Hid (l[i]? = some y) := hy; (obtain ⟨g, rfl, hgc⟩ := HV.out (fun e => by rw [e] at hlt; simp at hlt)); obtain ⟨g0, g1, g2⟩ := hgc i y hy; have k0 := (HB.out.cell (lt_of_cell g0)).trans g0; have k1 := (HB.out.cell (lt_of_cell g1)).trans g1; have k2 := (HB.out.cell (lt_of_cell g2)).trans g2; (have HC : Hid (∀ w', Below w.heap.size w w' → Calls Try.prog fn (#[.agg #[.int .u64 (h : Nat), .int .u64 (hw : Nat), .int .u64 (hs : Nat)], .agg #[.int .u64 (y : Nat), .int .u64 (bm ps.length (wnB ps y) : Nat), .int .u64 (bm ps.length (swB ps y) : Nat)]] ++ cap) w' _) := fun w' hb => HA.out y w' (HU.out w' hb)); obtain ⟨yw, hyw⟩ : ∃ x, x = bm ps.length (wnB ps y) := ⟨_, rfl⟩; obtain ⟨ys, hys⟩ : ∃ x, x = bm ps.length (swB ps y) := ⟨_, rfl⟩; rw [← hyw] at k1 HC; rw [← hys] at k2 HC; have HYs : Hid (ys = bm ps.length (swB ps y)) := hys; obtain ⟨r, hr⟩ : ∃ r, r = S ps h y := ⟨_, rfl⟩; rw [← hr] at HC; have HRr : Hid (r = S ps h y) := hr; clear hlt hi hgc g0 g1 g2 hyw hys hr hy; obtain ⟨X, hX⟩ : ∃ X, X = wr.alloc (.cells #[.int .u64 (y : Nat), .int .u64 (yw : Nat), .int .u64 (ys : Nat)] 104 (0, 0)) := ⟨_, rfl⟩; (have hbX : Below wr.heap.size wr X := by rw [hX]; exact below_more (Below.refl _ _) _); have HBX : Hid (Below w.heap.size w X) := below_join HB.out hbX; have HXh : Hid (X.heap[w.heap.size]? = some (.cells #[.int .u64 (h : Nat), .int .u64 (hw : Nat), .int .u64 (hs : Nat)] 104 (0, 0))) := below_keep hbX HH.out; (have HXy : Hid (X.heap[wr.heap.size]? = some (.cells #[.int .u64 (y : Nat), .int .u64 (yw : Nat), .int .u64 (ys : Nat)] 104 (0, 0))) := by rw [hX]; exact blk_new _ _); clear hbX; have hXe := hX.symm; clear hX; go_wp2_with fail
    try rw [hXe]
    clear hXe k0 k1 k2; (refine wp_region_free (by kernel_rfl) [fun v _ => v = (.pointer (some ⟨bF, 0, none⟩)), fun v _ => v = (.pointer (some ⟨bF, 0, none⟩)), fun v _ => v = (.pointer (some ⟨bF, 1, none⟩)), fun v _ => v = (.pointer (some ⟨bF, 1, none⟩)), fun v _ => v = (.func (.func fn) #[] cap), fun v _ => v = (.agg #[.int .u64 (h : Nat), .int .u64 (hw : Nat), .int .u64 (hs : Nat)]), fun v _ => v = (.agg #[.int .u64 (y : Nat), .int .u64 (yw : Nat), .int .u64 (ys : Nat)]), fun v _ => v = (.bool r)] ?_ (by kernel_rfl) (by kernel_rfl) 31 rfl (by kernel_rfl) ?_ ?_)
    · intro p hp
      simp only [List.mem_cons, List.not_mem_nil, or_false] at hp
      rcases hp with rfl | rfl | rfl | rfl | rfl | rfl | rfl | rfl
      · exact fun _ _ _ h _ => h
      · exact fun _ _ _ h _ => h
      · exact fun _ _ _ h _ => h
      · exact fun _ _ _ h _ => h
      · exact fun _ _ _ h _ => h
      · exact fun _ _ _ h _ => h
      · exact fun _ _ _ h _ => h
      · exact fun _ _ _ h _ => h
    · refine ⟨?_, ?_, ?_, ?_, ?_, ?_, ?_, ?_, trivial⟩
      · intro a wx hB hold hdep K hK
        have t0 : a.tmps[0]? = some (.pointer (some ⟨bF, 0, none⟩)) := hold.2.2 0 rfl; clear hold hdep; go_simp; exact hK.out _ _ rfl (Below.refl _ _)
      · intro a wx hB hold hdep K hK
        obtain ⟨v16, t16, p16⟩ := hdep 0 rfl _ 16 rfl rfl; have e16 : v16 = (.pointer (some ⟨bF, 0, none⟩)) := p16; subst e16; clear hold hdep; go_simp; exact hK.out _ _ rfl (Below.refl _ _)
      · intro a wx hB hold hdep K hK
        obtain ⟨v17, t17, p17⟩ := hdep 1 rfl _ 17 rfl rfl; have e17 : v17 = (.pointer (some ⟨bF, 0, none⟩)) := p17; subst e17; clear hold hdep; go_simp; exact hK.out _ _ rfl (Below.refl _ _)
      · intro a wx hB hold hdep K hK
        obtain ⟨v18, t18, p18⟩ := hdep 2 rfl _ 18 rfl rfl; have e18 : v18 = (.pointer (some ⟨bF, 1, none⟩)) := p18; subst e18; clear hold hdep; go_simp; exact hK.out _ _ rfl (Below.refl _ _)
      · intro a wx hB hold hdep K hK
        obtain ⟨v19, t19, p19⟩ := hdep 3 rfl _ 19 rfl rfl; have e19 : v19 = (.pointer (some ⟨bF, 1, none⟩)) := p19; subst e19; obtain ⟨q0, q1, q2, q3, q4, -⟩ := blkF (below_keep hB (below_keep HBX.out HF.out)); clear hold hdep; go_simp; exact hK.out _ _ rfl (Below.refl _ _)
      · intro a wx hB hold hdep K hK
        have t4 : a.tmps[4]? = some (.pointer (some ⟨w.heap.size, 0, none⟩)) := hold.2.2 4 rfl; obtain ⟨q0, q1, q2, -⟩ := blk3 (below_keep hB HXh.out); clear hold hdep; go_simp; exact hK.out _ _ rfl (Below.refl _ _)
      · intro a wx hB hold hdep K hK
        have t9 : a.tmps[9]? = some (.pointer (some ⟨wr.heap.size, 0, none⟩)) := hold.2.2 9 rfl; obtain ⟨q0, q1, q2, -⟩ := blk3 (below_keep hB HXy.out); clear hold hdep; go_simp; exact hK.out _ _ rfl (Below.refl _ _)
      · intro a wx hB hold hdep K hK
        obtain ⟨v20, t20, p20⟩ := hdep 4 rfl _ 20 rfl rfl; have e20 : v20 = (.func (.func fn) #[] cap) := p20; subst e20; obtain ⟨v21, t21, p21⟩ := hdep 5 rfl _ 21 rfl rfl; have e21 : v21 = (.agg #[.int .u64 (h : Nat), .int .u64 (hw : Nat), .int .u64 (hs : Nat)]) := p21; subst e21; obtain ⟨v22, t22, p22⟩ := hdep 6 rfl _ 22 rfl rfl; have e22 : v22 = (.agg #[.int .u64 (y : Nat), .int .u64 (yw : Nat), .int .u64 (ys : Nat)]) := p22; subst e22; have HW : Hid (Calls Try.prog fn (#[.agg #[.int .u64 (h : Nat), .int .u64 (hw : Nat), .int .u64 (hs : Nat)], .agg #[.int .u64 (y : Nat), .int .u64 (yw : Nat), .int .u64 (ys : Nat)]] ++ cap) wx _) := HC.out wx (below_join HBX.out hB); clear hold hdep; go_simp; refine HW.out.mono ?_; rintro _ w9 ⟨rfl, hb9⟩; go_simp; exact hK.out _ _ rfl hb9
    · intro a wx hB hold hgot
      obtain ⟨vZ, tvZ, pvZ⟩ := hgot 7 _ 23 rfl rfl; have evZ : vZ = (.bool r) := pvZ; subst evZ; have HBx : Hid (Below X.heap.size X wx) := hB; obtain ⟨tm, df⟩ := a; (obtain ⟨ys, hys, htm, rfl⟩ := frame_mid2 16 8 (by kernel_rfl) (Nat.le_of_ble_eq_true rfl) hold); obtain ⟨x16, x17, x18, x19, x20, x21, x22, x23, rfl⟩ := rowD8 ys hys; simp only [List.take_succ_cons, List.take_zero, List.drop_succ_cons, List.drop_zero, List.cons_append, List.nil_append] at htm; subst htm; obtain rfl : x23 = _ := someInjM tvZ; clear hys hold hgot tvZ hB; have HB2 : Hid (Below w.heap.size w wx) := below_join HBX.out HBx.out; have HH2 : Hid (wx.heap[w.heap.size]? = some (.cells #[.int .u64 (h : Nat), .int .u64 (hw : Nat), .int .u64 (hs : Nat)] 104 (0, 0))) := below_keep HBx.out HXh.out; obtain ⟨z0, z1, z2, -⟩ := blk3 (below_keep HBx.out HXy.out); clear HBx HC
      cases r
      · have hz : (l.take (i + 1)).any (S ps h) = (l.take i).any (S ps h) := by rw [sees_snoc HY.out, List.any_append]; simp [← HRr.out]
        have hx2 : x = bm ps.length fun n => (l.take (i + 1)).any fun x => S ps h x && swB ps x n := by
          rw [HX.out]; (exact bm_ext fun n _ => by rw [sees_snoc HY.out, List.any_append]; simp [← HRr.out])
        (have HZ : Hid (((l.take (i + 1)).any (S ps h) = (l.take i).any (S ps h)) ∧ (x = bm ps.length fun n => (l.take (i + 1)).any fun x => S ps h x && swB ps x n)) := ⟨hz, hx2⟩); clear hz hx2; go_wp2_with fail
        go_roundg (l.length - (i + 1))
        case measure => have := HGk.out; have := HI.out; omega
        case rel => exact ⟨i + 1, x, HI.out, rfl, by go_num, rfl, by rw [HZ.out.1], HZ.out.2, HH2, HB2⟩
      · have hz : (l.take (i + 1)).any (S ps h) = true := by rw [sees_snoc HY.out, List.any_append]; simp [← HRr.out]
        obtain ⟨x2, hx2⟩ : ∃ x2, x2 = x ||| ys := ⟨_, rfl⟩
        have hor : bits .or .u64 (x : Int) (ys : Int) = (x2 : Int) := by
          rw [hx2]; (exact u64_or (by rw [HX.out]; exact bm_small HL.out _) (by rw [HYs.out]; exact bm_small HL.out _))
        have HZ : Hid (((l.take (i + 1)).any (S ps h) = true) ∧ (x2 = bm ps.length fun n => (l.take (i + 1)).any fun x => S ps h x && swB ps x n)) := ⟨hz, by
          rw [hx2, HX.out, HYs.out, bm_or]
          exact bm_ext fun n _ => by rw [sees_snoc HY.out, List.any_append]; simp [← HRr.out]⟩
        clear hz hx2; go_wp2_with fail
        go_roundg (l.length - (i + 1))
        case measure => have := HGk.out; have := HI.out; omega
        case rel => exact ⟨i + 1, x2, HI.out, rfl, by go_num, rfl, by rw [HZ.out.1], HZ.out.2, HH2, HB2⟩
set_option maxRecDepth 10000 in
set_option maxHeartbeats 4000000 in
theorem allowW_any {ps : List PartM} (hL : ps.length ≤ 40) {fn : Nat} {cap : Array Value} {S : List PartM → Nat → Nat → Bool} {M : Nat → Prop} {Ok : World → Prop} (A : AskW fn cap S M Ok) (bF bt : Nat) (its sm : Bool) (ad9 : Option Addr) (n9 cp9 : Nat) (h : Nat) (w : World) (hF : FdAt w bF bt fn cap its sm ad9 n9 cp9) (hok : Ok w) :
    Calls Try.prog 91 #[.pointer (some ⟨bF, 0, none⟩), WV ps h] w fun e w' => e = .returned (.bool (!its || S ps h h)) ∧ Below w.heap.size w w' := by
  (have HC : Hid (∀ w', Below w.heap.size w w' → Calls Try.prog fn (#[WV ps h, WV ps h] ++ cap) w' fun e w'' => e = .returned (.bool (S ps h h)) ∧ Below w'.heap.size w' w'') := fun w' hb => A.call ps h h w' hL (A.below hok hb)); have hcf := A.ent; have HF : Hid (w.heap[bF]? = some (.cells #[.pointer (some ⟨bt, 0, none⟩), .func (.func fn) #[] cap, .bool its, .bool sm, .slice ad9 n9 cp9] 140 (0, 0))) := hF; unfold WV at HC ⊢; generalize S ps h h = r at *; generalize bm ps.length (wnB ps h) = hw at *; generalize bm ps.length (swB ps h) = hs at *; clear hF hok A hL; obtain ⟨X, hX⟩ : ∃ W, W = w.alloc (.cells #[.int .u64 (h : Nat), .int .u64 (hw : Nat), .int .u64 (hs : Nat)] 104 (0, 0)) := ⟨_, rfl⟩; (have HBX : Hid (Below w.heap.size w X) := by rw [hX]; exact below_more (Below.refl _ _) _); (have HXh : Hid (X.heap[w.heap.size]? = some (.cells #[.int .u64 (h : Nat), .int .u64 (hw : Nat), .int .u64 (hs : Nat)] 104 (0, 0))) := by rw [hX]; exact blk_new _ _)
  go_enter Try.func91, Try.ntmps91
  go_wp2_with fail; rw [← hX]; clear hX
  cases its
  · refine wp_region_free (by kernel_rfl) [fun v _ => v = (.pointer (some ⟨bF, 0, none⟩)), fun v _ => v = (.pointer (some ⟨bF, 0, none⟩)), fun v _ => v = (.pointer (some ⟨bF, 1, none⟩)), fun v _ => v = (.pointer (some ⟨bF, 2, none⟩)), fun v _ => v = (.bool false), fun v _ => v = (.bool true), fun v _ => v = (.bool true), fun _ _ => True, fun _ _ => True, fun _ _ => True, fun _ _ => True, fun _ _ => True, fun _ _ => True, fun _ _ => True, fun _ _ => True, fun v _ => v = (.bool true), fun v _ => v = (.bool true)] ?_ (by kernel_rfl) (by kernel_rfl) 21 rfl (by kernel_rfl) ?_ ?_
    · intro p hp
      simp only [List.mem_cons, List.not_mem_nil, or_false] at hp
      rcases hp with rfl | rfl | rfl | rfl | rfl | rfl | rfl | rfl | rfl | rfl | rfl | rfl | rfl | rfl | rfl | rfl | rfl
      · exact fun _ _ _ h _ => h
      · exact fun _ _ _ h _ => h
      · exact fun _ _ _ h _ => h
      · exact fun _ _ _ h _ => h
      · exact fun _ _ _ h _ => h
      · exact fun _ _ _ h _ => h
      · exact fun _ _ _ h _ => h
      · exact fun _ _ _ h _ => h
      · exact fun _ _ _ h _ => h
      · exact fun _ _ _ h _ => h
      · exact fun _ _ _ h _ => h
      · exact fun _ _ _ h _ => h
      · exact fun _ _ _ h _ => h
      · exact fun _ _ _ h _ => h
      · exact fun _ _ _ h _ => h
      · exact fun _ _ _ h _ => h
      · exact fun _ _ _ h _ => h
    · refine ⟨?_, ?_, ?_, ?_, ?_, ?_, ?_, ?_, ?_, ?_, ?_, ?_, ?_, ?_, ?_, ?_, ?_, trivial⟩
      · intro a wx hB hold hdep K hK
        have t0 : a.tmps[0]? = some (.pointer (some ⟨bF, 0, none⟩)) := hold.2.2 0 rfl; clear hold hdep; go_simp; exact hK.out _ _ rfl (Below.refl _ _)
      · intro a wx hB hold hdep K hK
        obtain ⟨v5, t5, p5⟩ := hdep 0 rfl _ 5 rfl rfl; have e5 : v5 = (.pointer (some ⟨bF, 0, none⟩)) := p5; subst e5; clear hold hdep; go_simp; exact hK.out _ _ rfl (Below.refl _ _)
      · intro a wx hB hold hdep K hK
        obtain ⟨v6, t6, p6⟩ := hdep 1 rfl _ 6 rfl rfl; have e6 : v6 = (.pointer (some ⟨bF, 0, none⟩)) := p6; subst e6; clear hold hdep; go_simp; exact hK.out _ _ rfl (Below.refl _ _)
      · intro a wx hB hold hdep K hK
        obtain ⟨v7, t7, p7⟩ := hdep 2 rfl _ 7 rfl rfl; have e7 : v7 = (.pointer (some ⟨bF, 1, none⟩)) := p7; subst e7; clear hold hdep; go_simp; exact hK.out _ _ rfl (Below.refl _ _)
      · intro a wx hB hold hdep K hK
        obtain ⟨v8, t8, p8⟩ := hdep 3 rfl _ 8 rfl rfl; have e8 : v8 = (.pointer (some ⟨bF, 2, none⟩)) := p8; subst e8; obtain ⟨q0, q1, q2, q3, q4, -⟩ := blkF (below_keep hB (below_keep HBX.out HF.out)); clear hold hdep; go_simp; exact hK.out _ _ rfl (Below.refl _ _)
      · intro a wx hB hold hdep K hK
        obtain ⟨v9, t9, p9⟩ := hdep 4 rfl _ 9 rfl rfl; have e9 : v9 = (.bool false) := p9; subst e9; clear hold hdep; go_simp; exact hK.out _ _ rfl (Below.refl _ _)
      · intro a wx hB hold hdep K hK
        obtain ⟨v10, t10, p10⟩ := hdep 5 rfl _ 10 rfl rfl; have e10 : v10 = (.bool true) := p10; subst e10; clear hold hdep; go_simp; exact hK.out _ _ rfl (Below.refl _ _)
      · intro a wx hB hold hdep K hK
        obtain ⟨v11, t11, p11⟩ := hdep 6 rfl _ 11 rfl rfl; have e11 : v11 = (.bool true) := p11; subst e11; clear hold hdep; go_simp; exact hK.out _ _ trivial (Below.refl _ _)
      · intro a wx hB hold hdep K hK
        obtain ⟨v11, t11, p11⟩ := hdep 6 rfl _ 11 rfl rfl; have e11 : v11 = (.bool true) := p11; subst e11; clear hold hdep; go_simp; exact hK.out _ _ trivial (Below.refl _ _)
      · intro a wx hB hold hdep K hK
        obtain ⟨v11, t11, p11⟩ := hdep 6 rfl _ 11 rfl rfl; have e11 : v11 = (.bool true) := p11; subst e11; clear hold hdep; go_simp; exact hK.out _ _ trivial (Below.refl _ _)
      · intro a wx hB hold hdep K hK
        obtain ⟨v11, t11, p11⟩ := hdep 6 rfl _ 11 rfl rfl; have e11 : v11 = (.bool true) := p11; subst e11; clear hold hdep; go_simp; exact hK.out _ _ trivial (Below.refl _ _)
      · intro a wx hB hold hdep K hK
        obtain ⟨v11, t11, p11⟩ := hdep 6 rfl _ 11 rfl rfl; have e11 : v11 = (.bool true) := p11; subst e11; clear hold hdep; go_simp; exact hK.out _ _ trivial (Below.refl _ _)
      · intro a wx hB hold hdep K hK
        obtain ⟨v11, t11, p11⟩ := hdep 6 rfl _ 11 rfl rfl; have e11 : v11 = (.bool true) := p11; subst e11; clear hold hdep; go_simp; exact hK.out _ _ trivial (Below.refl _ _)
      · intro a wx hB hold hdep K hK
        obtain ⟨v11, t11, p11⟩ := hdep 6 rfl _ 11 rfl rfl; have e11 : v11 = (.bool true) := p11; subst e11; clear hold hdep; go_simp; exact hK.out _ _ trivial (Below.refl _ _)
      · intro a wx hB hold hdep K hK
        obtain ⟨v11, t11, p11⟩ := hdep 6 rfl _ 11 rfl rfl; have e11 : v11 = (.bool true) := p11; subst e11; clear hold hdep; go_simp; exact hK.out _ _ trivial (Below.refl _ _)
      · intro a wx hB hold hdep K hK
        obtain ⟨v11, t11, p11⟩ := hdep 6 rfl _ 11 rfl rfl; have e11 : v11 = (.bool true) := p11; subst e11; clear hold hdep; go_simp; exact hK.out _ _ rfl (Below.refl _ _)
      · intro a wx hB hold hdep K hK
        obtain ⟨v20, t20, p20⟩ := hdep 15 rfl _ 20 rfl rfl; have e20 : v20 = (.bool true) := p20; subst e20; clear hold hdep; go_simp; exact hK.out _ _ rfl (Below.refl _ _)
    · intro a wx hB hold hgot
      obtain ⟨vZ, tvZ, pvZ⟩ := hgot 16 _ 4 rfl rfl; have evZ : vZ = (.bool true) := pvZ; subst evZ; have HBx : Hid (Below X.heap.size X wx) := hB; obtain ⟨tm, df⟩ := a; (obtain ⟨ys, hys, htm, rfl⟩ := frame_mid2 4 17 (by kernel_rfl) (Nat.le_of_ble_eq_true rfl) hold); obtain ⟨x4, x5, x6, x7, x8, x9, x10, x11, x12, x13, x14, x15, x16, x17, x18, x19, x20, rfl⟩ := rowD17 ys hys; simp only [List.take_succ_cons, List.take_zero, List.drop_succ_cons, List.drop_zero, List.cons_append, List.nil_append] at htm; subst htm; obtain rfl : x4 = _ := someInjM tvZ; clear hys hold hgot tvZ hB; go_wp2_with fail; go_ret; exact ⟨rfl, below_join HBX.out HBx.out⟩
  · refine wp_region_free (by kernel_rfl) [fun v _ => v = (.pointer (some ⟨bF, 0, none⟩)), fun v _ => v = (.pointer (some ⟨bF, 0, none⟩)), fun v _ => v = (.pointer (some ⟨bF, 1, none⟩)), fun v _ => v = (.pointer (some ⟨bF, 2, none⟩)), fun v _ => v = (.bool true), fun v _ => v = (.bool false), fun v _ => v = (.bool false), fun v _ => v = (.pointer (some ⟨bF, 0, none⟩)), fun v _ => v = (.pointer (some ⟨bF, 0, none⟩)), fun v _ => v = (.pointer (some ⟨bF, 1, none⟩)), fun v _ => v = (.pointer (some ⟨bF, 1, none⟩)), fun v _ => v = (.func (.func fn) #[] cap), fun v _ => v = (.agg #[.int .u64 (h : Nat), .int .u64 (hw : Nat), .int .u64 (hs : Nat)]), fun v _ => v = (.agg #[.int .u64 (h : Nat), .int .u64 (hw : Nat), .int .u64 (hs : Nat)]), fun v _ => v = (.bool r), fun v _ => v = (.bool r), fun v _ => v = (.bool r)] ?_ (by kernel_rfl) (by kernel_rfl) 21 rfl (by kernel_rfl) ?_ ?_
    · intro p hp
      simp only [List.mem_cons, List.not_mem_nil, or_false] at hp
      rcases hp with rfl | rfl | rfl | rfl | rfl | rfl | rfl | rfl | rfl | rfl | rfl | rfl | rfl | rfl | rfl | rfl | rfl
      · exact fun _ _ _ h _ => h
      · exact fun _ _ _ h _ => h
      · exact fun _ _ _ h _ => h
      · exact fun _ _ _ h _ => h
      · exact fun _ _ _ h _ => h
      · exact fun _ _ _ h _ => h
      · exact fun _ _ _ h _ => h
      · exact fun _ _ _ h _ => h
      · exact fun _ _ _ h _ => h
      · exact fun _ _ _ h _ => h
      · exact fun _ _ _ h _ => h
      · exact fun _ _ _ h _ => h
      · exact fun _ _ _ h _ => h
      · exact fun _ _ _ h _ => h
      · exact fun _ _ _ h _ => h
      · exact fun _ _ _ h _ => h
      · exact fun _ _ _ h _ => h
    · refine ⟨?_, ?_, ?_, ?_, ?_, ?_, ?_, ?_, ?_, ?_, ?_, ?_, ?_, ?_, ?_, ?_, ?_, trivial⟩
      · intro a wx hB hold hdep K hK
        have t0 : a.tmps[0]? = some (.pointer (some ⟨bF, 0, none⟩)) := hold.2.2 0 rfl; clear hold hdep; go_simp; exact hK.out _ _ rfl (Below.refl _ _)
      · intro a wx hB hold hdep K hK
        obtain ⟨v5, t5, p5⟩ := hdep 0 rfl _ 5 rfl rfl; have e5 : v5 = (.pointer (some ⟨bF, 0, none⟩)) := p5; subst e5; clear hold hdep; go_simp; exact hK.out _ _ rfl (Below.refl _ _)
      · intro a wx hB hold hdep K hK
        obtain ⟨v6, t6, p6⟩ := hdep 1 rfl _ 6 rfl rfl; have e6 : v6 = (.pointer (some ⟨bF, 0, none⟩)) := p6; subst e6; clear hold hdep; go_simp; exact hK.out _ _ rfl (Below.refl _ _)
      · intro a wx hB hold hdep K hK
        obtain ⟨v7, t7, p7⟩ := hdep 2 rfl _ 7 rfl rfl; have e7 : v7 = (.pointer (some ⟨bF, 1, none⟩)) := p7; subst e7; clear hold hdep; go_simp; exact hK.out _ _ rfl (Below.refl _ _)
      · intro a wx hB hold hdep K hK
        obtain ⟨v8, t8, p8⟩ := hdep 3 rfl _ 8 rfl rfl; have e8 : v8 = (.pointer (some ⟨bF, 2, none⟩)) := p8; subst e8; obtain ⟨q0, q1, q2, q3, q4, -⟩ := blkF (below_keep hB (below_keep HBX.out HF.out)); clear hold hdep; go_simp; exact hK.out _ _ rfl (Below.refl _ _)
      · intro a wx hB hold hdep K hK
        obtain ⟨v9, t9, p9⟩ := hdep 4 rfl _ 9 rfl rfl; have e9 : v9 = (.bool true) := p9; subst e9; clear hold hdep; go_simp; exact hK.out _ _ rfl (Below.refl _ _)
      · intro a wx hB hold hdep K hK
        obtain ⟨v10, t10, p10⟩ := hdep 5 rfl _ 10 rfl rfl; have e10 : v10 = (.bool false) := p10; subst e10; clear hold hdep; go_simp; exact hK.out _ _ rfl (Below.refl _ _)
      · intro a wx hB hold hdep K hK
        obtain ⟨v11, t11, p11⟩ := hdep 6 rfl _ 11 rfl rfl; have e11 : v11 = (.bool false) := p11; subst e11; have t0 : a.tmps[0]? = some (.pointer (some ⟨bF, 0, none⟩)) := hold.2.2 0 rfl; clear hold hdep; go_simp; exact hK.out _ _ rfl (Below.refl _ _)
      · intro a wx hB hold hdep K hK
        obtain ⟨v11, t11, p11⟩ := hdep 6 rfl _ 11 rfl rfl; have e11 : v11 = (.bool false) := p11; subst e11; obtain ⟨v12, t12, p12⟩ := hdep 7 rfl _ 12 rfl rfl; have e12 : v12 = (.pointer (some ⟨bF, 0, none⟩)) := p12; subst e12; clear hold hdep; go_simp; exact hK.out _ _ rfl (Below.refl _ _)
      · intro a wx hB hold hdep K hK
        obtain ⟨v11, t11, p11⟩ := hdep 6 rfl _ 11 rfl rfl; have e11 : v11 = (.bool false) := p11; subst e11; obtain ⟨v13, t13, p13⟩ := hdep 8 rfl _ 13 rfl rfl; have e13 : v13 = (.pointer (some ⟨bF, 0, none⟩)) := p13; subst e13; clear hold hdep; go_simp; exact hK.out _ _ rfl (Below.refl _ _)
      · intro a wx hB hold hdep K hK
        obtain ⟨v11, t11, p11⟩ := hdep 6 rfl _ 11 rfl rfl; have e11 : v11 = (.bool false) := p11; subst e11; obtain ⟨v14, t14, p14⟩ := hdep 9 rfl _ 14 rfl rfl; have e14 : v14 = (.pointer (some ⟨bF, 1, none⟩)) := p14; subst e14; clear hold hdep; go_simp; exact hK.out _ _ rfl (Below.refl _ _)
      · intro a wx hB hold hdep K hK
        obtain ⟨v11, t11, p11⟩ := hdep 6 rfl _ 11 rfl rfl; have e11 : v11 = (.bool false) := p11; subst e11; obtain ⟨v15, t15, p15⟩ := hdep 10 rfl _ 15 rfl rfl; have e15 : v15 = (.pointer (some ⟨bF, 1, none⟩)) := p15; subst e15; obtain ⟨q0, q1, q2, q3, q4, -⟩ := blkF (below_keep hB (below_keep HBX.out HF.out)); clear hold hdep; go_simp; exact hK.out _ _ rfl (Below.refl _ _)
      · intro a wx hB hold hdep K hK
        obtain ⟨v11, t11, p11⟩ := hdep 6 rfl _ 11 rfl rfl; have e11 : v11 = (.bool false) := p11; subst e11; have t3 : a.tmps[3]? = some (.pointer (some ⟨w.heap.size, 0, none⟩)) := hold.2.2 3 rfl; obtain ⟨q0, q1, q2, -⟩ := blk3 (below_keep hB HXh.out); clear hold hdep; go_simp; exact hK.out _ _ rfl (Below.refl _ _)
      · intro a wx hB hold hdep K hK
        obtain ⟨v11, t11, p11⟩ := hdep 6 rfl _ 11 rfl rfl; have e11 : v11 = (.bool false) := p11; subst e11; have t3 : a.tmps[3]? = some (.pointer (some ⟨w.heap.size, 0, none⟩)) := hold.2.2 3 rfl; obtain ⟨q0, q1, q2, -⟩ := blk3 (below_keep hB HXh.out); clear hold hdep; go_simp; exact hK.out _ _ rfl (Below.refl _ _)
      · intro a wx hB hold hdep K hK
        obtain ⟨v11, t11, p11⟩ := hdep 6 rfl _ 11 rfl rfl; have e11 : v11 = (.bool false) := p11; subst e11; obtain ⟨v16, t16, p16⟩ := hdep 11 rfl _ 16 rfl rfl; have e16 : v16 = (.func (.func fn) #[] cap) := p16; subst e16; obtain ⟨v17, t17, p17⟩ := hdep 12 rfl _ 17 rfl rfl; have e17 : v17 = (.agg #[.int .u64 (h : Nat), .int .u64 (hw : Nat), .int .u64 (hs : Nat)]) := p17; subst e17; obtain ⟨v18, t18, p18⟩ := hdep 13 rfl _ 18 rfl rfl; have e18 : v18 = (.agg #[.int .u64 (h : Nat), .int .u64 (hw : Nat), .int .u64 (hs : Nat)]) := p18; subst e18; have HW : Hid (Calls Try.prog fn (#[.agg #[.int .u64 (h : Nat), .int .u64 (hw : Nat), .int .u64 (hs : Nat)], .agg #[.int .u64 (h : Nat), .int .u64 (hw : Nat), .int .u64 (hs : Nat)]] ++ cap) wx _) := HC.out wx (below_join HBX.out hB); clear hold hdep; go_simp; refine HW.out.mono ?_; rintro _ w9 ⟨rfl, hb9⟩; go_simp; exact hK.out _ _ rfl hb9
      · intro a wx hB hold hdep K hK
        obtain ⟨v11, t11, p11⟩ := hdep 6 rfl _ 11 rfl rfl; have e11 : v11 = (.bool false) := p11; subst e11; obtain ⟨v19, t19, p19⟩ := hdep 14 rfl _ 19 rfl rfl; have e19 : v19 = (.bool r) := p19; subst e19; clear hold hdep; go_simp; exact hK.out _ _ rfl (Below.refl _ _)
      · intro a wx hB hold hdep K hK
        obtain ⟨v20, t20, p20⟩ := hdep 15 rfl _ 20 rfl rfl; have e20 : v20 = (.bool r) := p20; subst e20; clear hold hdep; go_simp; exact hK.out _ _ rfl (Below.refl _ _)
    · intro a wx hB hold hgot
      obtain ⟨vZ, tvZ, pvZ⟩ := hgot 16 _ 4 rfl rfl; have evZ : vZ = (.bool r) := pvZ; subst evZ; have HBx : Hid (Below X.heap.size X wx) := hB; obtain ⟨tm, df⟩ := a; (obtain ⟨ys, hys, htm, rfl⟩ := frame_mid2 4 17 (by kernel_rfl) (Nat.le_of_ble_eq_true rfl) hold); obtain ⟨x4, x5, x6, x7, x8, x9, x10, x11, x12, x13, x14, x15, x16, x17, x18, x19, x20, rfl⟩ := rowD17 ys hys; simp only [List.take_succ_cons, List.take_zero, List.drop_succ_cons, List.drop_zero, List.cons_append, List.nil_append] at htm; subst htm; obtain rfl : x4 = _ := someInjM tvZ; clear hys hold hgot tvZ hB; go_wp2_with fail; go_ret; exact ⟨rfl, below_join HBX.out HBx.out⟩
set_option maxRecDepth 10000 in
set_option maxHeartbeats 4000000 in
theorem contW_any {ps : List PartM} (hL : ps.length ≤ 40) {fn : Nat} {cap : Array Value} {S : List PartM → Nat → Nat → Bool} {M : Nat → Prop} {Ok : World → Prop} (A : AskW fn cap S M Ok) (bF bt : Nat) (its sm : Bool) (ad9 : Option Addr) (cp9 : Nat) (h : Nat) (l : List Nat) (hl : l.length ≤ 100000) (w : World) (hF : FdAt w bF bt fn cap its sm ad9 l.length cp9) (hok : Ok w) (hv : WL ps w (.slice ad9 l.length cp9) l) :
    Calls Try.prog 92 #[.pointer (some ⟨bF, 0, none⟩), WV ps h] w fun e w' => e = .returned (.bool (decide (bm ps.length (fun n => l.any fun x => S ps h x && swB ps x n) = bm ps.length (wnB ps h)) && (l.any (S ps h) || !sm))) ∧ Below w.heap.size w w' := by
  obtain ⟨n9, hn9⟩ : ∃ n, n = l.length := ⟨_, rfl⟩; (have HC : Hid (∀ w', Below w.heap.size w w' → Calls Try.prog 114 #[.pointer (some ⟨bF, 0, none⟩), WV ps h, .slice ad9 l.length cp9] w' _) := fun w' hb => seenW_any hL A bF bt its sm ad9 n9 cp9 h l hl _ w' (below_keep hb (by rw [hn9]; exact hF)) (A.below hok hb) (hv.up hb)); (have HF : Hid (w.heap[bF]? = some (.cells #[.pointer (some ⟨bt, 0, none⟩), .func (.func fn) #[] cap, .bool its, .bool sm, .slice ad9 n9 cp9] 140 (0, 0))) := by rw [hn9]; exact hF); rw [← hn9] at HC; unfold WV at HC ⊢; (generalize bm ps.length (fun n => l.any fun x => S ps h x && swB ps x n) = sh at *); generalize l.any (S ps h) = r at *; generalize bm ps.length (wnB ps h) = hw at *; generalize bm ps.length (swB ps h) = hs at *; clear hF hok A hL hv hl hn9; obtain ⟨X, hX⟩ : ∃ W, W = w.alloc (.cells #[.int .u64 (h : Nat), .int .u64 (hw : Nat), .int .u64 (hs : Nat)] 104 (0, 0)) := ⟨_, rfl⟩; (have HBX : Hid (Below w.heap.size w X) := by rw [hX]; exact below_more (Below.refl _ _) _); (have HXh : Hid (X.heap[w.heap.size]? = some (.cells #[.int .u64 (h : Nat), .int .u64 (hw : Nat), .int .u64 (hs : Nat)] 104 (0, 0))) := by rw [hX]; exact blk_new _ _)
  go_enter Try.func92, Try.ntmps92
  go_wp2_with fail; rw [← hX]; clear hX; (refine wp_region_free (by kernel_rfl) [fun v _ => v = (.pointer (some ⟨bF, 0, none⟩)), fun v _ => v = (.agg #[.int .u64 (h : Nat), .int .u64 (hw : Nat), .int .u64 (hs : Nat)]), fun v _ => v = (.pointer (some ⟨bF, 0, none⟩)), fun v _ => v = (.pointer (some ⟨bF, 0, none⟩)), fun v _ => v = (.pointer (some ⟨bF, 4, none⟩)), fun v _ => v = (.slice ad9 n9 cp9), fun v _ => v = (.tuple #[.int .u64 (sh : Nat), .bool r]), fun v _ => v = (.tuple #[.int .u64 (sh : Nat), .bool r]), fun v _ => v = (.int .u64 (sh : Nat)), fun v _ => v = (.bool r), fun v _ => v = (.int .u64 (sh : Nat)), fun v _ => v = (.bool r)] ?_ (by kernel_rfl) (by kernel_rfl) 32 rfl (by kernel_rfl) ?_ ?_)
  · intro p hp
    simp only [List.mem_cons, List.not_mem_nil, or_false] at hp
    rcases hp with rfl | rfl | rfl | rfl | rfl | rfl | rfl | rfl | rfl | rfl | rfl | rfl
    · exact fun _ _ _ h _ => h
    · exact fun _ _ _ h _ => h
    · exact fun _ _ _ h _ => h
    · exact fun _ _ _ h _ => h
    · exact fun _ _ _ h _ => h
    · exact fun _ _ _ h _ => h
    · exact fun _ _ _ h _ => h
    · exact fun _ _ _ h _ => h
    · exact fun _ _ _ h _ => h
    · exact fun _ _ _ h _ => h
    · exact fun _ _ _ h _ => h
    · exact fun _ _ _ h _ => h
  · refine ⟨?_, ?_, ?_, ?_, ?_, ?_, ?_, ?_, ?_, ?_, ?_, ?_, trivial⟩
    · intro a wx hB hold hdep K hK
      have t0 : a.tmps[0]? = some (.pointer (some ⟨bF, 0, none⟩)) := hold.2.2 0 rfl; clear hold hdep; go_simp; exact hK.out _ _ rfl (Below.refl _ _)
    · intro a wx hB hold hdep K hK
      have t3 : a.tmps[3]? = some (.pointer (some ⟨w.heap.size, 0, none⟩)) := hold.2.2 3 rfl; obtain ⟨q0, q1, q2, -⟩ := blk3 (below_keep hB HXh.out); clear hold hdep; go_simp; exact hK.out _ _ rfl (Below.refl _ _)
    · intro a wx hB hold hdep K hK
      have t0 : a.tmps[0]? = some (.pointer (some ⟨bF, 0, none⟩)) := hold.2.2 0 rfl; clear hold hdep; go_simp; exact hK.out _ _ rfl (Below.refl _ _)
    · intro a wx hB hold hdep K hK
      obtain ⟨v10, t10, p10⟩ := hdep 2 rfl _ 10 rfl rfl; have e10 : v10 = (.pointer (some ⟨bF, 0, none⟩)) := p10; subst e10; clear hold hdep; go_simp; exact hK.out _ _ rfl (Below.refl _ _)
    · intro a wx hB hold hdep K hK
      obtain ⟨v11, t11, p11⟩ := hdep 3 rfl _ 11 rfl rfl; have e11 : v11 = (.pointer (some ⟨bF, 0, none⟩)) := p11; subst e11; clear hold hdep; go_simp; exact hK.out _ _ rfl (Below.refl _ _)
    · intro a wx hB hold hdep K hK
      obtain ⟨v12, t12, p12⟩ := hdep 4 rfl _ 12 rfl rfl; have e12 : v12 = (.pointer (some ⟨bF, 4, none⟩)) := p12; subst e12; obtain ⟨q0, q1, q2, q3, q4, -⟩ := blkF (below_keep hB (below_keep HBX.out HF.out)); clear hold hdep; go_simp; exact hK.out _ _ rfl (Below.refl _ _)
    · intro a wx hB hold hdep K hK
      obtain ⟨v8, t8, p8⟩ := hdep 0 rfl _ 8 rfl rfl; have e8 : v8 = (.pointer (some ⟨bF, 0, none⟩)) := p8; subst e8; obtain ⟨v9, t9, p9⟩ := hdep 1 rfl _ 9 rfl rfl; have e9 : v9 = (.agg #[.int .u64 (h : Nat), .int .u64 (hw : Nat), .int .u64 (hs : Nat)]) := p9; subst e9; obtain ⟨v13, t13, p13⟩ := hdep 5 rfl _ 13 rfl rfl; have e13 : v13 = (.slice ad9 n9 cp9) := p13; subst e13; have HW : Hid (Calls Try.prog 114 #[.pointer (some ⟨bF, 0, none⟩), .agg #[.int .u64 (h : Nat), .int .u64 (hw : Nat), .int .u64 (hs : Nat)], .slice ad9 n9 cp9] wx _) := HC.out wx (below_join HBX.out hB); clear hold hdep; go_simp; refine HW.out.mono ?_; rintro _ w9 ⟨rfl, hb9⟩; go_simp; exact hK.out _ _ rfl hb9
    · intro a wx hB hold hdep K hK
      obtain ⟨v14, t14, p14⟩ := hdep 6 rfl _ 14 rfl rfl; have e14 : v14 = (.tuple #[.int .u64 (sh : Nat), .bool r]) := p14; subst e14; clear hold hdep; go_simp; exact hK.out _ _ rfl (Below.refl _ _)
    · intro a wx hB hold hdep K hK
      obtain ⟨v7, t7, p7⟩ := hdep 7 rfl _ 7 rfl rfl; have e7 : v7 = (.tuple #[.int .u64 (sh : Nat), .bool r]) := p7; subst e7; clear hold hdep; go_simp; exact hK.out _ _ rfl (Below.refl _ _)
    · intro a wx hB hold hdep K hK
      obtain ⟨v7, t7, p7⟩ := hdep 7 rfl _ 7 rfl rfl; have e7 : v7 = (.tuple #[.int .u64 (sh : Nat), .bool r]) := p7; subst e7; clear hold hdep; go_simp; exact hK.out _ _ rfl (Below.refl _ _)
    · intro a wx hB hold hdep K hK
      obtain ⟨v15, t15, p15⟩ := hdep 8 rfl _ 15 rfl rfl; have e15 : v15 = (.int .u64 (sh : Nat)) := p15; subst e15; clear hold hdep; go_simp; exact hK.out _ _ rfl (Below.refl _ _)
    · intro a wx hB hold hdep K hK
      obtain ⟨v16, t16, p16⟩ := hdep 9 rfl _ 16 rfl rfl; have e16 : v16 = (.bool r) := p16; subst e16; clear hold hdep; go_simp; exact hK.out _ _ rfl (Below.refl _ _)
  · intro a wx hB hold hgot
    obtain ⟨vS, tvS, pvS⟩ := hgot 10 _ 5 rfl rfl; have evS : vS = (.int .u64 (sh : Nat)) := pvS; subst evS; obtain ⟨vR, tvR, pvR⟩ := hgot 11 _ 6 rfl rfl; have evR : vR = (.bool r) := pvR; subst evR; have HBx : Hid (Below X.heap.size X wx) := hB; obtain ⟨tm, df⟩ := a; (obtain ⟨ys, hys, htm, rfl⟩ := frame_mid2 5 12 (by kernel_rfl) (Nat.le_of_ble_eq_true rfl) hold); obtain ⟨x5, x6, x7, x8, x9, x10, x11, x12, x13, x14, x15, x16, rfl⟩ := rowD12 ys hys; simp only [List.take_succ_cons, List.take_zero, List.drop_succ_cons, List.drop_zero, List.cons_append, List.nil_append] at htm; subst htm; obtain rfl : x5 = _ := someInjM tvS; obtain rfl : x6 = _ := someInjM tvR; clear hys hold hgot tvS tvR hB; obtain ⟨z0, z1, z2, -⟩ := blk3 (below_keep HBx.out HXh.out); obtain ⟨f0, f1, f2, f3, f4, -⟩ := blkF (below_keep HBx.out (below_keep HBX.out HF.out)); have HE : Hid (Below w.heap.size w wx) := below_join HBX.out HBx.out; by_cases hs9 : sh = hw
    · subst hs9
      cases r
      · cases sm
        · go_wp2_with fail
          go_ret; (exact ⟨by simp, HE.out⟩)
        · go_wp2_with fail
          go_ret; (exact ⟨by simp, HE.out⟩)
      · go_wp2_with fail
        go_ret; (exact ⟨by simp, HE.out⟩)
    · have hne : ((sh : Int) == (hw : Int)) = false := by
        rw [beq_eq_false_iff_ne]; (exact fun e => hs9 (by exact_mod_cast e))
      (have hne2 : (sh == hw) = false := by simpa using hs9); go_wp2_with fail; go_ret; (exact ⟨by simp, HE.out⟩)
end Go.Proofs.Ytmahgfgndfcmpag
