/- Texts of one proof, one behind the other: NTH, NTI. -/
import Derived.Test.YtealalhgkdlmkaiB22
import Derived.Test.YtealalhgkdlmkaiB23
/- Walks: links unite: uniteLinks. -/
namespace Go.Proofs.Ytealalhgkdlmkai
open Go.RowKit Go.Sort Go.Maps Go.WideMaps

theorem encP_atN : ∀ (rs : List (Int × Int)) (i : Nat) (x y : Int), rs[i]? = some (x, y) → (encP rs)[i * 2]? = some (.int .i64 x) ∧ (encP rs)[i * 2 + 1]? = some (.int .i64 y)
  | [], i, x, y, h => by simp at h
  | p :: rs, 0, x, y, h => by
    simp at h; subst h
    exact ⟨rfl, rfl⟩
  | p :: rs, i + 1, x, y, h => by
    (have := encP_atN rs i x y (by simpa using h)); rw [encP]; refine ⟨?_, ?_⟩
    · rw [show (i + 1) * 2 = i * 2 + 1 + 1 by omega]; simpa using this.1
    · rw [show (i + 1) * 2 + 1 = i * 2 + 1 + 1 + 1 by omega]; simpa using this.2
theorem row_apart {V : World} {b9 n9 cp bc ga ca n : Nat} {cs : List Value} {c : Nat → Nat} {cnt : Int} (h : V.ownsRow 0 57 2 (.slice (some ⟨b9, 0, none⟩) n9 cp) n9 cs) (hc : CS V bc ga ca n c cnt) : b9 ≠ ga ∧ b9 ≠ bc := by
  obtain ⟨A, r, h1, h2⟩ := hc; (refine ⟨fun e => ?_, fun e => ?_⟩)
  · obtain ⟨-, hh⟩ := h2.row
    rcases hh with ⟨e2, -⟩ | ⟨g, cap, cur, e2, -, hg, -⟩
    · cases e2
    · cases e2
      (exact rowM_ne h hg (by decide) (by rw [e]; rfl))
  · exact rowM_ne h h2.blk (by decide) (by rw [e]; rfl)
/-- The state while a link unites. -/
structure StUL (W : World) (bc ga ca n : Nat) (c : Nat → Nat) (x y : Nat) (l19 : Bool) (wx : World) : Prop where
  cs : CS wx bc ga ca n (cond l19 (mergeC c x y) c) (rootsN n (cond l19 (mergeC c x y) c) : Nat)
  kept : Kept (fun b => b ≠ ga ∧ b ≠ bc) W wx
theorem rowL20 (l : List Value) (h0 : l.length = 20) : ∃ x0 x1 x2 x3 x4 x5 x6 x7 x8 x9 x10 x11 x12 x13 x14 x15 x16 x17 x18 x19, l = [x0, x1, x2, x3, x4, x5, x6, x7, x8, x9, x10, x11, x12, x13, x14, x15, x16, x17, x18, x19] := by
  obtain ⟨x0, l1, e0, h1⟩ := cons_lenM h0; obtain ⟨x1, l2, e1, h2⟩ := cons_lenM h1; obtain ⟨x2, l3, e2, h3⟩ := cons_lenM h2; obtain ⟨x3, l4, e3, h4⟩ := cons_lenM h3; obtain ⟨x4, l5, e4, h5⟩ := cons_lenM h4; obtain ⟨x5, l6, e5, h6⟩ := cons_lenM h5; obtain ⟨x6, l7, e6, h7⟩ := cons_lenM h6; obtain ⟨x7, l8, e7, h8⟩ := cons_lenM h7; obtain ⟨x8, l9, e8, h9⟩ := cons_lenM h8; obtain ⟨x9, l10, e9, h10⟩ := cons_lenM h9; obtain ⟨x10, l11, e10, h11⟩ := cons_lenM h10; obtain ⟨x11, l12, e11, h12⟩ := cons_lenM h11; obtain ⟨x12, l13, e12, h13⟩ := cons_lenM h12; obtain ⟨x13, l14, e13, h14⟩ := cons_lenM h13; obtain ⟨x14, l15, e14, h15⟩ := cons_lenM h14; obtain ⟨x15, l16, e15, h16⟩ := cons_lenM h15; obtain ⟨x16, l17, e16, h17⟩ := cons_lenM h16; obtain ⟨x17, l18, e17, h18⟩ := cons_lenM h17; obtain ⟨x18, l19, e18, h19⟩ := cons_lenM h18; obtain ⟨x19, l20, e19, h20⟩ := cons_lenM h19; have e20 : l20 = [] := List.length_eq_zero_iff.1 h20; subst e20 e19 e18 e17 e16 e15 e14 e13 e12 e11 e10 e9 e8 e7 e6 e5 e4 e3 e2 e1 e0; exact ⟨x0, x1, x2, x3, x4, x5, x6, x7, x8, x9, x10, x11, x12, x13, x14, x15, x16, x17, x18, x19, rfl⟩
set_option maxRecDepth 10000 in
set_option maxHeartbeats 4000000 in
theorem uniteLinks_any (l : List Lm) (hs : Lm.sizes l ≤ 200) (mu : Nat → Option Nat) (hmu : MuOk (lvsL l 0).length mu) (cc0 bp bm bc ga ca : Nat) (c0 : Nat → Nat) (w0 w : World) (h : NetAt w0 bp bm l mu cc0) (hb0 : Below w0.heap.size w0 w) (hga : w0.heap.size ≤ ga ∧ w0.heap.size ≤ bc) (hc : CS w bc ga ca (ndsL l 0).length c0 (rootsN (ndsL l 0).length c0 : Nat)) (hsn : Snd (ndsL l 0) (lkE (lvsL l 0) mu) c0) :
    Calls Try.prog 89 #[nwV bp bm, .pointer (some ⟨bc, 0, none⟩)] w fun e w' => e = .returned (.tuple #[]) ∧ (∃ c', CS w' bc ga ca (ndsL l 0).length c' (rootsN (ndsL l 0).length c' : Nat) ∧ Snd (ndsL l 0) (lkE (lvsL l 0) mu) c' ∧ ∀ i j, lkE (lvsL l 0) mu i j → c' i = c' j) ∧ Below w0.heap.size w0 w' := by
  have hnl : (ndsL l 0).length = Lm.sizes l := ndsL_len l 0; have hlv := lvsL_len l 0; have HLi : Hid (LvIn (ndsL l 0) (lvsL l 0)) := lvIn_plan l; (have HLk : Hid (∀ W, NetAt W bp bm l mu cc0 → Calls Try.prog 48 #[.agg #[.pointer (some ⟨bp, 0, none⟩), .map (some bm)]] W _) := fun W hW => links_any l hs mu cc0 bp bm W hW); obtain ⟨n, hn⟩ : ∃ n, n = (ndsL l 0).length := ⟨_, rfl⟩; (have HUn : Hid (∀ (c : Nat → Nat) x y, x < n → y < n → ∀ w, CS w bc ga ca n c (rootsN n c : Nat) → Calls Try.prog 90 #[.pointer (some ⟨bc, 0, none⟩), .int .i64 (x : Nat), .int .i64 (y : Nat)] w fun e w' => e = .returned (.bool (decide (c x ≠ c y))) ∧ CS w' bc ga ca n (mergeC c x y) (rootsN n (mergeC c x y) : Nat) ∧ Kept (fun b => b ≠ ga ∧ b ≠ bc) w w') := fun c x y hx hy w h => unite_any (by omega) c bc ga ca x y hx hy w h); have HNt : Hid (NetAt w0 bp bm l mu cc0) := h; have HB0 : Hid (Below w0.heap.size w0 w) := hb0; have HGa : Hid (w0.heap.size ≤ ga ∧ w0.heap.size ≤ bc) := hga; obtain ⟨T, ar, cr, hp, -⟩ := h; obtain ⟨an, cn, al, cl, -, -, h2, -, hcl, -, hL⟩ := hp.read; have HC2 : Hid (w0.cell? ⟨bp, 2, none⟩ = some (.slice al (lvsL l 0).length cl)) := h2; have HLv : Hid (∀ i n : Nat, (lvsL l 0)[i]? = some n → ∃ gl, al = some ⟨gl, 0, none⟩ ∧ w0.cell? ⟨gl, i, none⟩ = some (.int .i64 (n : Nat))) := hL; rw [← hn] at hc ⊢; have HC : Hid (CS w bc ga ca n c0 (rootsN n c0 : Nat)) := hc; have HSn : Hid (Snd (ndsL l 0) (lkE (lvsL l 0) mu) c0) := hsn; have HNn : Hid (n = (ndsL l 0).length) := hn; have HMu : Hid (MuOk (lvsL l 0).length mu) := hmu; (have hlvI : ((lvsL l 0).length : Int) ≤ 200 := by omega); (have hclI : ((lvsL l 0).length : Int) ≤ (cl : Int) := by omega); unfold nwV; obtain ⟨W, hW⟩ : ∃ W, W = w.alloc (.cells #[.pointer (some ⟨bp, 0, none⟩), .map (some bm)] 65 (0, 0)) := ⟨_, rfl⟩; (have hbW : Below w.heap.size w W := by rw [hW]; exact below_more (Below.refl _ w) _); have HBW : Hid (Below w0.heap.size w0 W) := below_join HB0.out hbW; obtain ⟨bx, hbx⟩ : ∃ bx, bx = w.heap.size := ⟨_, rfl⟩; (have HX1 : Hid (W.heap[bx]? = some (.cells #[.pointer (some ⟨bp, 0, none⟩), .map (some bm)] 65 (0, 0))) := by rw [hW, hbx]; exact blk_new _ _); have HCW : Hid (CS W bc ga ca n c0 (rootsN n c0 : Nat)) := HC.out.up hbW
  have HXn : Hid (bx ≠ ga ∧ bx ≠ bc) := by
    obtain ⟨hq, -, -, -, -⟩ := HC.out.read; have h1 := lt_of_block hq; obtain ⟨A, r, h3, h4⟩ := HC.out; have h5 := (h4.row.lt ga rfl).2; (refine ⟨?_, ?_⟩ <;> omega)
  (obtain ⟨q0, q1, -⟩ := blk2 (show W.heap[w.heap.size]? = some (.cells #[.pointer (some ⟨bp, 0, none⟩), .map (some bm)] 65 (0, 0)) by rw [← hbx]; exact HX1.out)); have hWe := hW.symm; clear hW hbW hp h2 hL hc hsn hmu hs hnl hlv hb0 hga hcl hn
  go_enter Try.func89, Try.ntmps89
  go_wp2_with fail; rw [← hbx]; clear hbx hWe; refine (HLk.out W (HNt.out.up HBW.out)).mono ?_; rintro _ V ⟨ad, cp, rfl, hpl, hbV⟩; have HBV : Hid (Below w0.heap.size w0 V) := below_join HBW.out hbV; have HXV : Hid (V.heap[bx]? = some (.cells #[.pointer (some ⟨bp, 0, none⟩), .map (some bm)] 65 (0, 0))) := below_keep hbV HX1.out; have HCV : Hid (CS V bc ga ca n c0 (rootsN n c0 : Nat)) := HCW.out.up hbV; obtain ⟨LK, hLK⟩ : ∃ LK, LK = lksD mu (lvsL l 0).length := ⟨_, rfl⟩; rw [← hLK] at hpl ⊢; have HPl : Hid (V.ownsRow 0 57 2 (.slice ad LK.length cp) LK.length (encP (LK.map pI))) := hpl; have HLK : Hid (LK = lksD mu (lvsL l 0).length) := hLK; (have hlkI : (LK.length : Int) ≤ 200 := by have := lksD_len mu (lvsL l 0).length; rw [← hLK] at this; omega); (have hcpI : (LK.length : Int) ≤ (cp : Int) := by have := (rowM_caps hpl).1; omega)
  have HLM : Hid (∀ (i : Nat) (p : Nat × Nat), LK[i]? = some p → p.1 < (lvsL l 0).length ∧ p.2 < (lvsL l 0).length ∧ mu p.1 = some p.2) := fun i p hp => by
    have hm := List.mem_of_getElem? hp; rw [hLK] at hm; unfold lksD at hm; obtain ⟨j, hj, hjp⟩ := List.mem_filterMap.1 hm; have hjl := List.mem_range.1 hj; unfold lkOne at hjp
    split at hjp
    · rename_i m hmj
      split at hjp
      · cases hjp
        exact ⟨hjl, (HMu.out.lt j m hmj).2, hmj⟩
      · cases hjp
    · cases hjp
  clear hpl hbV hLK q0 q1; go_wp2_with fail
  go_loopg [9] LK.length (fun gg cc wr => ∃ i c, i ≤ LK.length ∧ gg = LK.length - i ∧ cc = .int .i64 (i : Nat) ∧ Hid (CS wr bc ga ca n c (rootsN n c : Nat)) ∧ Hid (Snd (ndsL l 0) (lkE (lvsL l 0) mu) c) ∧ Hid (∀ (j : Nat) (p : Nat × Nat) (x y : Nat), j < i → LK[j]? = some p → (lvsL l 0)[p.1]? = some x → (lvsL l 0)[p.2]? = some y → c x = c y) ∧ Hid (Kept (fun b => b ≠ ga ∧ b ≠ bc) V wr))
  case atStart => exact ⟨0, c0, by omega, by omega, rfl, HCV, HSn, fun j p x y hj => absurd hj (Nat.not_lt_zero _), Kept.refl _ _⟩
  case round =>
    obtain ⟨i, c, hi, hg, rfl, HCr, HSr, HJ, HK⟩ := hrel; have HGk : Hid (gk = LK.length - i) := hg; clear hg; obtain ⟨U, hU⟩ : ∃ U, U = wr := ⟨_, rfl⟩; subst hU; by_cases hlt : i < LK.length
    · have hltI : (i : Int) < (LK.length : Int) := by omega
      have HI : Hid (i < LK.length) := hlt; obtain ⟨⟨ka, kb⟩, hp⟩ : ∃ p, LK[i]? = some p := ⟨_, List.getElem?_eq_getElem hlt⟩; obtain ⟨h1, h2, h3⟩ := HLM.out i (ka, kb) hp; simp only at h1 h2 h3; obtain ⟨x, hx⟩ : ∃ a, (lvsL l 0)[ka]? = some a := ⟨_, List.getElem?_eq_getElem h1⟩; obtain ⟨y, hy⟩ : ∃ a, (lvsL l 0)[kb]? = some a := ⟨_, List.getElem?_eq_getElem h2⟩; (have HXY : Hid (x < n ∧ y < n) := ⟨by rw [HNn.out]; exact HLi.out ka x hx, by rw [HNn.out]; exact HLi.out kb y hy⟩); have HE : Hid (Cn (ndsL l 0) (lkE (lvsL l 0) mu) x y) := Cn.link x y ⟨ka, kb, h3, hx, hy⟩; have HAt : Hid (LK[i]? = some (ka, kb) ∧ (lvsL l 0)[ka]? = some x ∧ (lvsL l 0)[kb]? = some y) := ⟨hp, hx, hy⟩; (have HkI : Hid ((ka : Int) < ((lvsL l 0).length : Int) ∧ (kb : Int) < ((lvsL l 0).length : Int)) := ⟨by omega, by omega⟩); (obtain ⟨b9, rfl, hcc⟩ := rowM_cells HPl.out (by omega))
      have HV1 : Hid (V.cell? ⟨b9, i * 2, none⟩ = some (.int .i64 (ka : Nat)) ∧ V.cell? ⟨b9, i * 2 + 1, none⟩ = some (.int .i64 (kb : Nat))) := by
        (have e0 : (LK.map pI)[i]? = some ((ka : Int), (kb : Int)) := by rw [List.getElem?_map, hp]; rfl); obtain ⟨y0, y1⟩ := encP_atN _ _ _ _ e0; have z0 := hcc _ _ y0; have z1 := hcc _ _ y1; rw [Nat.zero_add] at z0 z1; exact ⟨z0, z1⟩
      have HNb : Hid (b9 ≠ ga ∧ b9 ≠ bc) := row_apart HPl.out HCV.out; have x0 : U.cell? ⟨b9, i * 2, none⟩ = some (.int .i64 (ka : Nat)) := (cell_of_block (a := ⟨b9, _, none⟩) (HK.out.block b9 (lt_of_cell HV1.out.1) HNb.out)).trans HV1.out.1; have x1 : U.cell? ⟨b9, i * 2 + 1, none⟩ = some (.int .i64 (kb : Nat)) := (cell_of_block (a := ⟨b9, _, none⟩) (HK.out.block b9 (lt_of_cell HV1.out.2) HNb.out)).trans HV1.out.2; have HXU : Hid (U.heap[bx]? = some (.cells #[.pointer (some ⟨bp, 0, none⟩), .map (some bm)] 65 (0, 0))) := (HK.out.block bx (lt_of_block HXV.out) HXn.out).trans HXV.out; (have HBU : Hid (Below w0.heap.size w0 U) := HBV.out.trans (HK.out.below HBV.out.size fun b hb => by have := HGa.out; omega)); obtain ⟨gl, had, d1⟩ := HLv.out ka x hx; obtain ⟨gl', had', d2⟩ := HLv.out kb y hy; (have egl : gl' = gl := by rw [had] at had'; cases had'; rfl); subst egl; subst had; have HD : Hid (w0.cell? ⟨gl', ka, none⟩ = some (.int .i64 (x : Nat)) ∧ w0.cell? ⟨gl', kb, none⟩ = some (.int .i64 (y : Nat))) := ⟨d1, d2⟩; clear hlt hi hp h1 h2 h3 hx hy hcc d1 d2 had'; obtain ⟨X, hX⟩ : ∃ X, X = U.alloc (.cells #[.int .i64 (ka : Nat), .int .i64 (kb : Nat)] 57 (0, 0)) := ⟨_, rfl⟩; (have hbX : Below U.heap.size U X := by rw [hX]; exact below_more (Below.refl _ _) _); obtain ⟨by_, hby⟩ : ∃ by_, by_ = U.heap.size := ⟨_, rfl⟩; (have HXy : Hid (X.heap[by_]? = some (.cells #[.int .i64 (ka : Nat), .int .i64 (kb : Nat)] 57 (0, 0))) := by rw [hX, hby]; exact blk_new _ _); have HXb : Hid (X.heap[bx]? = some (.cells #[.pointer (some ⟨bp, 0, none⟩), .map (some bm)] 65 (0, 0))) := below_keep hbX HXU.out; have HX0 : Hid (Below w0.heap.size w0 X) := below_join HBU.out hbX; have HXc : Hid (CS X bc ga ca n c (rootsN n c : Nat)) := HCr.out.up hbX; (have HXk : Hid (Kept (fun b => b ≠ ga ∧ b ≠ bc) V X) := HK.out.trans (kept_of_below hbX (fun _ h _ => h)))
      have HYn : Hid (by_ ≠ ga ∧ by_ ≠ bc) := by
        obtain ⟨hq, -⟩ := HCr.out.read; have h1 := lt_of_block hq; obtain ⟨A, r, h3, h4⟩ := HCr.out; have h5 := (h4.row.lt ga rfl).2; (refine ⟨?_, ?_⟩ <;> omega)
      have hXe := hX.symm; clear hX hbX; go_wp2_with fail; rw [← hby]
      clear hXe x0 x1 hby
      (refine wp_region_gh (by kernel_rfl) (by kernel_rfl) (by kernel_rfl) 34 rfl (by kernel_rfl) [fun _ v _ => v = (.pointer (some ⟨bc, 0, none⟩)), fun _ v _ => v = (.pointer (some ⟨bx, 0, none⟩)), fun _ v _ => v = (.pointer (some ⟨bp, 0, none⟩)), fun _ v _ => v = (.pointer (some ⟨bp, 0, none⟩)), fun _ v _ => v = (.pointer (some ⟨bp, 2, none⟩)), fun _ v _ => v = (.slice (some ⟨gl', 0, none⟩) (lvsL l 0).length cl), fun _ v _ => v = (.pointer (some ⟨by_, 0, none⟩)), fun _ v _ => v = (.int .i64 (ka : Nat)), fun _ v _ => v = (.pointer (some ⟨gl', ka, none⟩)), fun _ v _ => v = (.int .i64 (x : Nat)), fun _ v _ => v = (.pointer (some ⟨bx, 0, none⟩)), fun _ v _ => v = (.pointer (some ⟨bp, 0, none⟩)), fun _ v _ => v = (.pointer (some ⟨bp, 0, none⟩)), fun _ v _ => v = (.pointer (some ⟨bp, 2, none⟩)), fun _ v _ => v = (.slice (some ⟨gl', 0, none⟩) (lvsL l 0).length cl), fun _ v _ => v = (.pointer (some ⟨by_, 1, none⟩)), fun _ v _ => v = (.int .i64 (kb : Nat)), fun _ v _ => v = (.pointer (some ⟨gl', kb, none⟩)), fun _ v _ => v = (.int .i64 (y : Nat)), fun _ _ _ => True] (fun _ _ => true) (fun L (_ : Unit) => StUL X bc ga ca n c x y (L 19)) (()) ?_ ?_ ?_)
      · exact fun wx h1 h2 => ⟨HXc.out.up h1, kept_of_below h1 (fun _ h _ => h)⟩
      · refine ⟨?_, ?_, ?_, ?_, ?_, ?_, ?_, ?_, ?_, ?_, ?_, ?_, ?_, ?_, ?_, ?_, ?_, ?_, ?_, ?_, trivial⟩
        · intro L y0 a wx hSt hLi hdl hcl hold hdep K hK
          have HSt : Hid (StUL X bc ga ca n c x y (L 19) wx) := hSt; clear hSt; have t1 : a.tmps[1]? = some (.pointer (some ⟨bc, 0, none⟩)) := hold 1 rfl; clear hold hdep hdl hcl hLi; go_simp; (exact hK.out _ _ y0 HSt.out rfl (fun j hj hl => ⟨rfl, fun u h => h⟩))
        · intro L y0 a wx hSt hLi hdl hcl hold hdep K hK
          have HSt : Hid (StUL X bc ga ca n c x y (L 19) wx) := hSt; clear hSt; have t2 : a.tmps[2]? = some (.pointer (some ⟨bx, 0, none⟩)) := hold 2 rfl; clear hold hdep hdl hcl hLi; go_simp; (exact hK.out _ _ y0 HSt.out rfl (fun j hj hl => ⟨rfl, fun u h => h⟩))
        · intro L y0 a wx hSt hLi hdl hcl hold hdep K hK
          have HSt : Hid (StUL X bc ga ca n c x y (L 19) wx) := hSt; clear hSt; obtain ⟨v14, t14, q14⟩ := hdep 1 rfl _ 14 rfl rfl; have e14 : v14 = (.pointer (some ⟨bx, 0, none⟩)) := q14 rfl; subst e14; have hq9 := (HSt.out.kept.block bx (lt_of_block HXb.out) HXn.out).trans HXb.out; obtain ⟨d0, d1, -⟩ := blk2 hq9; clear hq9; clear hold hdep hdl hcl hLi; go_simp; (exact hK.out _ _ y0 HSt.out rfl (fun j hj hl => ⟨rfl, fun u h => h⟩))
        · intro L y0 a wx hSt hLi hdl hcl hold hdep K hK
          have HSt : Hid (StUL X bc ga ca n c x y (L 19) wx) := hSt; clear hSt; obtain ⟨v15, t15, q15⟩ := hdep 2 rfl _ 15 rfl rfl; have e15 : v15 = (.pointer (some ⟨bp, 0, none⟩)) := q15 rfl; subst e15; clear hold hdep hdl hcl hLi; go_simp; (exact hK.out _ _ y0 HSt.out rfl (fun j hj hl => ⟨rfl, fun u h => h⟩))
        · intro L y0 a wx hSt hLi hdl hcl hold hdep K hK
          have HSt : Hid (StUL X bc ga ca n c x y (L 19) wx) := hSt; clear hSt; obtain ⟨v16, t16, q16⟩ := hdep 3 rfl _ 16 rfl rfl; have e16 : v16 = (.pointer (some ⟨bp, 0, none⟩)) := q16 rfl; subst e16; clear hold hdep hdl hcl hLi; go_simp; (exact hK.out _ _ y0 HSt.out rfl (fun j hj hl => ⟨rfl, fun u h => h⟩))
        · intro L y0 a wx hSt hLi hdl hcl hold hdep K hK
          have HSt : Hid (StUL X bc ga ca n c x y (L 19) wx) := hSt; clear hSt; obtain ⟨v17, t17, q17⟩ := hdep 4 rfl _ 17 rfl rfl; have e17 : v17 = (.pointer (some ⟨bp, 2, none⟩)) := q17 rfl; subst e17; (have HB9 : Below w0.heap.size w0 wx := HX0.out.trans (HSt.out.kept.below HX0.out.size fun b hb => by have := HGa.out; omega)); have d0 := (HB9.cell (lt_of_cell HC2.out)).trans HC2.out; clear HB9; clear hold hdep hdl hcl hLi; go_simp; (exact hK.out _ _ y0 HSt.out rfl (fun j hj hl => ⟨rfl, fun u h => h⟩))
        · intro L y0 a wx hSt hLi hdl hcl hold hdep K hK
          have HSt : Hid (StUL X bc ga ca n c x y (L 19) wx) := hSt; clear hSt; have t5 : a.tmps[5]? = some (.pointer (some ⟨by_, 0, none⟩)) := hold 5 rfl; clear hold hdep hdl hcl hLi; go_simp; (exact hK.out _ _ y0 HSt.out rfl (fun j hj hl => ⟨rfl, fun u h => h⟩))
        · intro L y0 a wx hSt hLi hdl hcl hold hdep K hK
          have HSt : Hid (StUL X bc ga ca n c x y (L 19) wx) := hSt; clear hSt; obtain ⟨v19, t19, q19⟩ := hdep 6 rfl _ 19 rfl rfl; have e19 : v19 = (.pointer (some ⟨by_, 0, none⟩)) := q19 rfl; subst e19; have hq9 := (HSt.out.kept.block by_ (lt_of_block HXy.out) HYn.out).trans HXy.out; obtain ⟨d0, d1, -⟩ := blk2 hq9; clear hq9; clear hold hdep hdl hcl hLi; go_simp; (exact hK.out _ _ y0 HSt.out rfl (fun j hj hl => ⟨rfl, fun u h => h⟩))
        · intro L y0 a wx hSt hLi hdl hcl hold hdep K hK
          have HSt : Hid (StUL X bc ga ca n c x y (L 19) wx) := hSt; clear hSt; obtain ⟨v18, t18, q18⟩ := hdep 5 rfl _ 18 rfl rfl; have e18 : v18 = (.slice (some ⟨gl', 0, none⟩) (lvsL l 0).length cl) := q18 rfl; subst e18; obtain ⟨v20, t20, q20⟩ := hdep 7 rfl _ 20 rfl rfl; have e20 : v20 = (.int .i64 (ka : Nat)) := q20 rfl; subst e20; obtain ⟨k9, k8⟩ := HkI.out; clear hold hdep hdl hcl hLi; go_simp; (exact hK.out _ _ y0 HSt.out rfl (fun j hj hl => ⟨rfl, fun u h => h⟩))
        · intro L y0 a wx hSt hLi hdl hcl hold hdep K hK
          have HSt : Hid (StUL X bc ga ca n c x y (L 19) wx) := hSt; clear hSt; obtain ⟨v21, t21, q21⟩ := hdep 8 rfl _ 21 rfl rfl; have e21 : v21 = (.pointer (some ⟨gl', ka, none⟩)) := q21 rfl; subst e21; (have HB9 : Below w0.heap.size w0 wx := HX0.out.trans (HSt.out.kept.below HX0.out.size fun b hb => by have := HGa.out; omega)); have d0 := (HB9.cell (lt_of_cell HD.out.1)).trans HD.out.1; clear HB9; clear hold hdep hdl hcl hLi; go_simp; (exact hK.out _ _ y0 HSt.out rfl (fun j hj hl => ⟨rfl, fun u h => h⟩))
        · intro L y0 a wx hSt hLi hdl hcl hold hdep K hK
          have HSt : Hid (StUL X bc ga ca n c x y (L 19) wx) := hSt; clear hSt; have t2 : a.tmps[2]? = some (.pointer (some ⟨bx, 0, none⟩)) := hold 2 rfl; clear hold hdep hdl hcl hLi; go_simp; (exact hK.out _ _ y0 HSt.out rfl (fun j hj hl => ⟨rfl, fun u h => h⟩))
        · intro L y0 a wx hSt hLi hdl hcl hold hdep K hK
          have HSt : Hid (StUL X bc ga ca n c x y (L 19) wx) := hSt; clear hSt; obtain ⟨v23, t23, q23⟩ := hdep 10 rfl _ 23 rfl rfl; have e23 : v23 = (.pointer (some ⟨bx, 0, none⟩)) := q23 rfl; subst e23; have hq9 := (HSt.out.kept.block bx (lt_of_block HXb.out) HXn.out).trans HXb.out; obtain ⟨d0, d1, -⟩ := blk2 hq9; clear hq9; clear hold hdep hdl hcl hLi; go_simp; (exact hK.out _ _ y0 HSt.out rfl (fun j hj hl => ⟨rfl, fun u h => h⟩))
        · intro L y0 a wx hSt hLi hdl hcl hold hdep K hK
          have HSt : Hid (StUL X bc ga ca n c x y (L 19) wx) := hSt; clear hSt; obtain ⟨v24, t24, q24⟩ := hdep 11 rfl _ 24 rfl rfl; have e24 : v24 = (.pointer (some ⟨bp, 0, none⟩)) := q24 rfl; subst e24; clear hold hdep hdl hcl hLi; go_simp; (exact hK.out _ _ y0 HSt.out rfl (fun j hj hl => ⟨rfl, fun u h => h⟩))
        · intro L y0 a wx hSt hLi hdl hcl hold hdep K hK
          have HSt : Hid (StUL X bc ga ca n c x y (L 19) wx) := hSt; clear hSt; obtain ⟨v25, t25, q25⟩ := hdep 12 rfl _ 25 rfl rfl; have e25 : v25 = (.pointer (some ⟨bp, 0, none⟩)) := q25 rfl; subst e25; clear hold hdep hdl hcl hLi; go_simp; (exact hK.out _ _ y0 HSt.out rfl (fun j hj hl => ⟨rfl, fun u h => h⟩))
        · intro L y0 a wx hSt hLi hdl hcl hold hdep K hK
          have HSt : Hid (StUL X bc ga ca n c x y (L 19) wx) := hSt; clear hSt; obtain ⟨v26, t26, q26⟩ := hdep 13 rfl _ 26 rfl rfl; have e26 : v26 = (.pointer (some ⟨bp, 2, none⟩)) := q26 rfl; subst e26; (have HB9 : Below w0.heap.size w0 wx := HX0.out.trans (HSt.out.kept.below HX0.out.size fun b hb => by have := HGa.out; omega)); have d0 := (HB9.cell (lt_of_cell HC2.out)).trans HC2.out; clear HB9; clear hold hdep hdl hcl hLi; go_simp; (exact hK.out _ _ y0 HSt.out rfl (fun j hj hl => ⟨rfl, fun u h => h⟩))
        · intro L y0 a wx hSt hLi hdl hcl hold hdep K hK
          have HSt : Hid (StUL X bc ga ca n c x y (L 19) wx) := hSt; clear hSt; have t5 : a.tmps[5]? = some (.pointer (some ⟨by_, 0, none⟩)) := hold 5 rfl; clear hold hdep hdl hcl hLi; go_simp; (exact hK.out _ _ y0 HSt.out rfl (fun j hj hl => ⟨rfl, fun u h => h⟩))
        · intro L y0 a wx hSt hLi hdl hcl hold hdep K hK
          have HSt : Hid (StUL X bc ga ca n c x y (L 19) wx) := hSt; clear hSt; obtain ⟨v28, t28, q28⟩ := hdep 15 rfl _ 28 rfl rfl; have e28 : v28 = (.pointer (some ⟨by_, 1, none⟩)) := q28 rfl; subst e28; have hq9 := (HSt.out.kept.block by_ (lt_of_block HXy.out) HYn.out).trans HXy.out; obtain ⟨d0, d1, -⟩ := blk2 hq9; clear hq9; clear hold hdep hdl hcl hLi; go_simp; (exact hK.out _ _ y0 HSt.out rfl (fun j hj hl => ⟨rfl, fun u h => h⟩))
        · intro L y0 a wx hSt hLi hdl hcl hold hdep K hK
          have HSt : Hid (StUL X bc ga ca n c x y (L 19) wx) := hSt; clear hSt; obtain ⟨v27, t27, q27⟩ := hdep 14 rfl _ 27 rfl rfl; have e27 : v27 = (.slice (some ⟨gl', 0, none⟩) (lvsL l 0).length cl) := q27 rfl; subst e27; obtain ⟨v29, t29, q29⟩ := hdep 16 rfl _ 29 rfl rfl; have e29 : v29 = (.int .i64 (kb : Nat)) := q29 rfl; subst e29; obtain ⟨k9, k8⟩ := HkI.out; clear hold hdep hdl hcl hLi; go_simp; (exact hK.out _ _ y0 HSt.out rfl (fun j hj hl => ⟨rfl, fun u h => h⟩))
        · intro L y0 a wx hSt hLi hdl hcl hold hdep K hK
          have HSt : Hid (StUL X bc ga ca n c x y (L 19) wx) := hSt; clear hSt; obtain ⟨v30, t30, q30⟩ := hdep 17 rfl _ 30 rfl rfl; have e30 : v30 = (.pointer (some ⟨gl', kb, none⟩)) := q30 rfl; subst e30; (have HB9 : Below w0.heap.size w0 wx := HX0.out.trans (HSt.out.kept.below HX0.out.size fun b hb => by have := HGa.out; omega)); have d0 := (HB9.cell (lt_of_cell HD.out.2)).trans HD.out.2; clear HB9; clear hold hdep hdl hcl hLi; go_simp; (exact hK.out _ _ y0 HSt.out rfl (fun j hj hl => ⟨rfl, fun u h => h⟩))
        · intro L y0 a wx hSt hLi hdl hcl hold hdep K hK
          have HSt : Hid (StUL X bc ga ca n c x y (L 19) wx) := hSt; clear hSt; obtain ⟨v13, t13, q13⟩ := hdep 0 rfl _ 13 rfl rfl; have e13 : v13 = (.pointer (some ⟨bc, 0, none⟩)) := q13 rfl; subst e13; obtain ⟨v22, t22, q22⟩ := hdep 9 rfl _ 22 rfl rfl; have e22 : v22 = (.int .i64 (x : Nat)) := q22 rfl; subst e22; obtain ⟨v31, t31, q31⟩ := hdep 18 rfl _ 31 rfl rfl; have e31 : v31 = (.int .i64 (y : Nat)) := q31 rfl; subst e31; have hS : StUL X bc ga ca n c x y (L 19) wx := HSt.out; rw [hLi] at hS; have HW : Hid (Calls Try.prog 90 #[.pointer (some ⟨bc, 0, none⟩), .int .i64 (x : Nat), .int .i64 (y : Nat)] wx _) := HUn.out c x y HXY.out.1 HXY.out.2 wx hS.cs; (have HKx : Hid (Kept (fun b => b ≠ ga ∧ b ≠ bc) X wx) := hS.kept); clear hS; clear hold hdep hdl; go_simp; refine HW.out.mono ?_; rintro _ w9 ⟨rfl, hc9, hk9⟩; have HX9 : Hid (StUL X bc ga ca n c x y true w9) := ⟨hc9, HKx.out.trans hk9⟩; clear hc9 hk9; go_simp; refine hK.out _ _ y0 HX9.out trivial ?_; intro j hj hl
          rcases j with _ | _ | _ | _ | _ | _ | _ | _ | _ | _ | _ | _ | _ | _ | _ | _ | _ | _ | _ | _ | j
          · exact ⟨rfl, fun u h => h⟩
          · exact ⟨rfl, fun u h => h⟩
          · exact ⟨rfl, fun u h => h⟩
          · exact ⟨rfl, fun u h => h⟩
          · exact ⟨rfl, fun u h => h⟩
          · exact ⟨rfl, fun u h => h⟩
          · exact ⟨rfl, fun u h => h⟩
          · exact ⟨rfl, fun u h => h⟩
          · exact ⟨rfl, fun u h => h⟩
          · exact ⟨rfl, fun u h => h⟩
          · exact ⟨rfl, fun u h => h⟩
          · exact ⟨rfl, fun u h => h⟩
          · exact ⟨rfl, fun u h => h⟩
          · exact ⟨rfl, fun u h => h⟩
          · exact ⟨rfl, fun u h => h⟩
          · exact ⟨rfl, fun u h => h⟩
          · exact ⟨rfl, fun u h => h⟩
          · exact ⟨rfl, fun u h => h⟩
          · exact ⟨rfl, fun u h => h⟩
          · exact Bool.noConfusion (hLi.symm.trans hj)
          · exact ⟨rfl, fun u h => h⟩
      · intro L y0 a wx hall hSt hsz hdf hold hgot
        have e19 : L 19 = true := hall 19 (Nat.le_of_ble_eq_true rfl); have hS : StUL X bc ga ca n c x y (L 19) wx := hSt; rw [e19] at hS; have HNc : Hid (CS wx bc ga ca n (mergeC c x y) (rootsN n (mergeC c x y) : Nat)) := hS.cs; (have HNk : Hid (Kept (fun b => b ≠ ga ∧ b ≠ bc) V wx) := HXk.out.trans hS.kept); (have HNs : Hid (Snd (ndsL l 0) (lkE (lvsL l 0) mu) (mergeC c x y)) := merge_snd HSr.out (by rw [← HNn.out]; exact HXY.out.1) (by rw [← HNn.out]; exact HXY.out.2) HE.out)
        have HNj : Hid (∀ (j : Nat) (p : Nat × Nat) (x2 y2 : Nat), j < i + 1 → LK[j]? = some p → (lvsL l 0)[p.1]? = some x2 → (lvsL l 0)[p.2]? = some y2 → mergeC c x y x2 = mergeC c x y y2) := fun j p x2 y2 hj hp h1 h2 => by
          rcases Nat.lt_or_ge j i with h3 | h3
          · exact merge_coar c x y _ _ (HJ.out j p x2 y2 h3 hp h1 h2)
          · obtain ⟨a1, a2, a3⟩ := HAt.out
            (rw [show j = i by omega, a1] at hp)
            cases hp
            rw [a2] at h1; rw [a3] at h2
            cases h1
            cases h2
            exact merge_join c x y
        obtain ⟨tm, df⟩ := a; (obtain ⟨ys, hys, htm, rfl⟩ := frame_mid2 13 20 (by kernel_rfl) (Nat.le_of_ble_eq_true rfl) ⟨hsz, hdf, hold⟩); obtain ⟨x13, x14, x15, x16, x17, x18, x19, x20, x21, x22, x23, x24, x25, x26, x27, x28, x29, x30, x31, x32, rfl⟩ := rowL20 ys hys; simp only [List.take_succ_cons, List.take_zero, List.drop_succ_cons, List.drop_zero, List.cons_append, List.nil_append] at htm; subst htm; clear hS hSt hys hold hgot hall hsz hdf e19; go_wp2_with fail
        go_roundg (LK.length - (i + 1))
        case measure => have := HGk.out; have := HI.out; omega
        case rel => exact ⟨i + 1, _, HI.out, rfl, by go_num, HNc, HNs, HNj, HNk⟩
    · have hii : LK.length = i := by omega
      subst hii; (have hge : ¬ (LK.length : Int) < (LK.length : Int) := by omega); clear hlt hi; go_wp2_with fail
      go_end0
      (have HBU : Below w0.heap.size w0 U := HBV.out.trans (HK.out.below HBV.out.size fun b hb => by have := HGa.out; omega)); (refine ⟨rfl, ⟨c, HCr.out, HSr.out, fun p q hpq => ?_⟩, HBU⟩)
      have key : ∀ a m x y, mu a = some m → a < m → (lvsL l 0)[a]? = some x → (lvsL l 0)[m]? = some y → c x = c y := fun a m x y hm ham hx hy => by
        have hlt := HMu.out.lt a m hm
        have hmem : (a, m) ∈ LK := by
          rw [HLK.out]; unfold lksD; refine List.mem_filterMap.2 ⟨a, List.mem_range.2 hlt.1, ?_⟩; unfold lkOne; rw [hm]; simp only; rw [if_pos ham]
        obtain ⟨j, hj⟩ := List.getElem?_of_mem hmem; exact HJ.out j (a, m) x y (List.getElem?_eq_some_iff.1 hj).1 hj hx hy
      obtain ⟨a, m, hm, hx, hy⟩ := hpq; have hne := HMu.out.ne a m hm
      rcases Nat.lt_or_ge a m with h1 | h1
      · exact key a m p q hm h1 hx hy
      · exact (key m a q p (HMu.out.back a m hm) (by omega) hy hx).symm
end Go.Proofs.Ytealalhgkdlmkai
/- Walks: a net's joints are counted. -/
namespace Go.Proofs.Ytealalhgkdlmkai
open Go.RowKit Go.Sort Go.Maps Go.WideMaps

/-- What a node joins in each way. -/
def jOf (x : Nd) : Nat := if x.k = 3 then 1 else if x.k = 2 then 2 else 0
def jSum (nds : List Nd) : Nat := (nds.map jOf).sum
theorem jSum_snoc (l : List Nd) (x : Nd) : jSum (l ++ [x]) = jSum l + jOf x := by simp [jSum]
theorem jSum_le (l : List Nd) : jSum l ≤ 2 * l.length := by
  induction l with
  | nil => simp [jSum]
  | cons x l ih =>
    (have : jSum (x :: l) = jOf x + jSum l := by simp [jSum]); (have h2 : jOf x ≤ 2 := by unfold jOf; split <;> (try split) <;> omega); rw [this, List.length_cons]; omega
theorem take_snocN {l : List Nd} {i : Nat} {x : Nd} (h : l[i]? = some x) : l.take (i + 1) = l.take i ++ [x] := by rw [List.take_add_one, h]; rfl
set_option maxRecDepth 10000 in
set_option maxHeartbeats 4000000 in
theorem joints_any (l : List Lm) (hs : Lm.sizes l ≤ 200) (mu : Nat → Option Nat) (k bp bm : Nat) (hk : k ≤ 1000) (w : World) (h : NetAt w bp bm l mu (2 * k)) :
    Calls Try.prog 61 #[nwV bp bm] w fun e w' => e = .returned (.int .i64 ((k + jSum (ndsL l 0) : Nat) : Int)) ∧ Below w.heap.size w w' := by
  have hnl : (ndsL l 0).length = Lm.sizes l := ndsL_len l 0; have HNt : Hid (NetAt w bp bm l mu (2 * k)) := h; obtain ⟨T, ar, cr, hp, hTb, -, hm⟩ := h; obtain ⟨nn, D, hmap, hnn, hsz, -⟩ := hm; have HPl : Hid (PlanA w T bp (.slice ar l.length cr) (ndsL l 0) (lvsL l 0)) := hp; have HMp : Hid (w.ownsMap Try.prog 3 (plainElem Try.prog 3) bm nn D ∧ Maps.size D = 2 * k) := ⟨hmap, hsz⟩; obtain ⟨an, cn, al, cl, h0, -, -, hcn, -, -, -⟩ := hp.read; have HC0 : Hid (w.cell? ⟨bp, 0, none⟩ = some (.slice an (ndsL l 0).length cn)) := h0; obtain ⟨nds, hnds⟩ : ∃ nds, nds = ndsL l 0 := ⟨_, rfl⟩; rw [← hnds] at HC0 hcn hnl ⊢ HPl; (have HNl : Hid (nds.length ≤ 200) := by show _ ≤ _; omega); (have hnI : (nds.length : Int) ≤ 200 := by omega); (have hkI : (k : Int) ≤ 1000 := by omega); have HKk : Hid (k ≤ 1000) := hk; (have HPr : Hid (∀ (i : Nat) (x : Nd), nds[i]? = some x → ∀ W, Below w.heap.size w W → Calls Try.prog 64 #[.pointer (some ⟨bp, 0, none⟩), .int .i64 (i : Nat)] W fun e w' => e = .returned (.bool (x.k == 3)) ∧ w' = W) := fun i x hx W hb => isPar_any hx W (HPl.out.up hb)); (have HTn : Hid (∀ (i : Nat) (x : Nd), nds[i]? = some x → ∀ W, Below w.heap.size w W → Calls Try.prog 69 #[.pointer (some ⟨bp, 0, none⟩), .int .i64 (i : Nat)] W fun e w' => e = .returned (.bool (x.k == 2)) ∧ w' = W) := fun i x hx W hb => isTensor_any hx W (HPl.out.up hb))
  have HJs : Hid (∀ i, jSum (nds.take i) ≤ 400) := fun i => by
    have := jSum_le (nds.take i); rw [List.length_take] at this; have := HNl.out; omega
  unfold nwV; obtain ⟨W, hW⟩ : ∃ W, W = w.alloc (.cells #[.pointer (some ⟨bp, 0, none⟩), .map (some bm)] 65 (0, 0)) := ⟨_, rfl⟩; (have HBW : Hid (Below w.heap.size w W) := by rw [hW]; exact below_more (Below.refl _ w) _); (have HX1 : Hid (W.heap[w.heap.size]? = some (.cells #[.pointer (some ⟨bp, 0, none⟩), .map (some bm)] 65 (0, 0))) := by rw [hW]; exact blk_new _ _)
  have hmW : W.ownsMap Try.prog 3 (plainElem Try.prog 3) bm nn D := by
    obtain ⟨es, clock, hb, r⟩ := hmap; exact ⟨es, clock, below_keep HBW.out hb, r⟩
  obtain ⟨q0, q1, -⟩ := blk2 HX1.out; have c2 := (HBW.out.cell (lt_of_cell HC0.out)).trans HC0.out
  have hdiv : IntKind.i64.wrap (((2 * k : Nat) : Int).tdiv 2) = (k : Int) := by
    (rw [show ((2 * k : Nat) : Int) = (k : Int) * 2 by omega, Int.mul_tdiv_cancel _ (by omega)]); (exact wrap_small _ (by omega))
  have hWe := hW.symm; clear hW hp h0 hnl hnds hs hTb hmap hk
  go_enter Try.func61, Try.ntmps61
  go_wp2_with (first
    | (at_len; refine wpList_len_own _ rfl _ 63 rfl 3 3 Try.underlying63 _ bm nn D rfl hmW ?_; rw [hsz]; go_wp2_with fail)
    | fail)
  clear hWe q0 q1 c2 hmW hdiv hsz hnn
  go_loopg [15, 3] nds.length (fun gg cc sm wr => ∃ i, i ≤ nds.length ∧ gg = nds.length - i ∧ cc = .int .i64 (i : Nat) ∧ sm = .int .i64 ((k + jSum (nds.take i) : Nat) : Int) ∧ wr = W)
  case atStart => exact ⟨0, by omega, by omega, rfl, by simp [jSum], rfl⟩
  case round =>
    obtain ⟨i, hi, hg, rfl, rfl, rfl⟩ := hrel; have HGk : Hid (gk = nds.length - i) := hg; clear hg; obtain ⟨q0, q1, -⟩ := blk2 HX1.out; by_cases hlt : i < nds.length
    · have hltI : (i : Int) < (nds.length : Int) := by omega
      have HI : Hid (i < nds.length) := hlt; obtain ⟨x, hx⟩ : ∃ x, nds[i]? = some x := ⟨_, List.getElem?_eq_getElem hlt⟩; have HP1 : Hid (Calls Try.prog 64 #[.pointer (some ⟨bp, 0, none⟩), .int .i64 (i : Nat)] wr _) := HPr.out i x hx wr HBW.out; have HP2 : Hid (Calls Try.prog 69 #[.pointer (some ⟨bp, 0, none⟩), .int .i64 (i : Nat)] wr _) := HTn.out i x hx wr HBW.out; (have HSn : Hid (jSum (nds.take (i + 1)) = jSum (nds.take i) + jOf x) := by show _ = _; rw [take_snocN hx, jSum_snoc]); have hj1 := HJs.out i; generalize jSum (nds.take i) = js at *; obtain ⟨s0, hs0⟩ : ∃ s0, s0 = k + js := ⟨_, rfl⟩; (have hs0I : (s0 : Int) ≤ 1400 := by have := HKk.out; omega); have HS0 : Hid (s0 = k + js) := hs0; rw [← hs0]; clear hlt hi hx hj1 hs0
      rcases h3 : (x.k == 3) with _ | _
      · rw [h3] at HP1
        rcases h2 : (x.k == 2) with _ | _
        · rw [h2] at HP2
          (have HJ : Hid (jOf x = 0) := by show _ = _; unfold jOf; rw [if_neg (by simpa using h3), if_neg (by simpa using h2)]); clear h2 h3
          go_wp2_with (first
            | (go_at_call 64; refine HP1.out.mono ?_; rintro e w5 ⟨rfl, rfl⟩)
            | (go_at_call 69; refine HP2.out.mono ?_; rintro e w5 ⟨rfl, rfl⟩)
            | fail)
          go_roundg (nds.length - (i + 1))
          case measure => have := HGk.out; have := HI.out; omega
          case rel => exact ⟨i + 1, HI.out, rfl, by go_num, by rw [HSn.out, HJ.out, HS0.out]; rfl, rfl⟩
        · rw [h2] at HP2
          (have HJ : Hid (jOf x = 2) := by show _ = _; unfold jOf; rw [if_neg (by simpa using h3), if_pos (by simpa using h2)]); clear h2 h3
          go_wp2_with (first
            | (go_at_call 64; refine HP1.out.mono ?_; rintro e w5 ⟨rfl, rfl⟩)
            | (go_at_call 69; refine HP2.out.mono ?_; rintro e w5 ⟨rfl, rfl⟩)
            | fail)
          go_roundg (nds.length - (i + 1))
          case measure => have := HGk.out; have := HI.out; omega
          case rel => exact ⟨i + 1, HI.out, rfl, by go_num, by rw [HSn.out, HJ.out]; have := HS0.out; subst this; rfl, rfl⟩
      · rw [h3] at HP1
        (have HJ : Hid (jOf x = 1) := by show _ = _; unfold jOf; rw [if_pos (by simpa using h3)]); clear h3
        go_wp2_with (first
          | (go_at_call 64; refine HP1.out.mono ?_; rintro e w5 ⟨rfl, rfl⟩)
          | fail)
        go_roundg (nds.length - (i + 1))
        case measure => have := HGk.out; have := HI.out; omega
        case rel => exact ⟨i + 1, HI.out, rfl, by go_num, by rw [HSn.out, HJ.out]; have := HS0.out; subst this; rfl, rfl⟩
    · have hii : nds.length = i := by omega
      subst hii; (have hge : ¬ (nds.length : Int) < (nds.length : Int) := by omega); clear hlt hi; go_wp2_with fail; go_ret; exact ⟨rfl, HBW.out⟩
end Go.Proofs.Ytealalhgkdlmkai
