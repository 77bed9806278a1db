/- Texts of one proof, one behind the other: NTE. -/
import Derived.Test.YtealalhgkdlmkaiB05
import Derived.Test.YtealalhgkdlmkaiB15
import Derived.BigRegion
/- Walks: classes of numbers: of, isOne, unite, newClasses. -/
namespace Go.Proofs.Ytealalhgkdlmkai
open Go.RowKit Go.Sort

/-- Classes in memory. -/
structure ClsAt (w : World) (bc ga ca : Nat) (A : List Nat) (cnt : Int) : Prop where
  blk : w.heap[bc]? = some (.cells #[.slice (some ⟨ga, 0, none⟩) A.length ca, .int .i64 cnt] 121 (0, 0))
  row : w.ownsRow 0 3 1 (.slice (some ⟨ga, 0, none⟩) A.length ca) A.length (A.map encI)
theorem ClsAt.up {w w' : World} {bc ga ca : Nat} {A : List Nat} {cnt : Int} (h : ClsAt w bc ga ca A cnt) (hb : Below w.heap.size w w') : ClsAt w' bc ga ca A cnt := ⟨below_keep hb h.blk, rowM_up h.row hb⟩
theorem ClsAt.ne {w : World} {bc ga ca : Nat} {A : List Nat} {cnt : Int} (h : ClsAt w bc ga ca A cnt) : bc ≠ ga := fun e => rowM_ne h.row h.blk (by decide) (by rw [e]; rfl)
theorem ClsAt.cell {w : World} {bc ga ca : Nat} {A : List Nat} {cnt : Int} (h : ClsAt w bc ga ca A cnt) {i x : Nat} (hx : A[i]? = some x) : w.cell? ⟨ga, i, none⟩ = some (.int .i64 (x : Nat)) := by
  have hlt := (List.getElem?_eq_some_iff.1 hx).1; (obtain ⟨g, e, hc⟩ := rowM_cells h.row (by omega))
  cases e
  (have := hc i (.int .i64 (x : Nat)) (by rw [List.getElem?_map, hx]; rfl))
  rwa [Nat.zero_add] at this
theorem ClsAt.put {w : World} {bc ga ca : Nat} {A : List Nat} {cnt : Int} (h : ClsAt w bc ga ca A cnt) (j y : Nat) : ClsAt (w.setCell ⟨ga, j, none⟩ (.int .i64 (y : Nat))) bc ga ca (A.set j y) cnt := by
  have h2 := row_put h.row j (.int .i64 (y : Nat)); (have e : (A.map encI).set j (.int .i64 (y : Nat)) = (A.set j y).map encI := by rw [List.map_set]; rfl); rw [e] at h2; have e2 : (A.set j y).length = A.length := List.length_set; (refine ⟨?_, by rw [e2]; exact h2⟩); rw [e2, Below.heap_setCell _ _ _ _ h.ne]; exact h.blk
set_option maxRecDepth 10000 in
set_option maxHeartbeats 4000000 in
theorem of_any {n : Nat} (hn : n ≤ 1000) (c r : Nat → Nat) (bc ga ca : Nat) (cnt : Int) (A : List Nat) (hU : UF n A c r) (i : Nat) (hi : i < n) (w : World) (h : ClsAt w bc ga ca A cnt) :
    Calls Try.prog 96 #[.pointer (some ⟨bc, 0, none⟩), .int .i64 (i : Nat)] w fun e w' => e = .returned (.int .i64 (c i : Nat)) ∧ (∃ A', UF n A' c r ∧ ClsAt w' bc ga ca A' cnt) ∧ Kept (fun b => b ≠ ga) w w' := by
  have HN : Hid (n ≤ 1000) := hn; (have hnI : (n : Int) ≤ 1000 := by omega); have HU0 : Hid (UF n A c r) := hU; have HC0 : Hid (ClsAt w bc ga ca A cnt) := h; (have hcap : (n : Int) ≤ (ca : Int) := by have := (rowM_caps h.row).1; rw [hU.len] at this; omega); clear hU h hn
  go_enter Try.func96, Try.ntmps96
  go_wp2_with fail
  go_loopg [1] (r i) (fun gg cc wr => ∃ (j : Nat) (A' : List Nat), gg = r j ∧ cc = .int .i64 (j : Nat) ∧ Hid (j < n ∧ c j = c i) ∧ Hid (UF n A' c r) ∧ Hid (ClsAt wr bc ga ca A' cnt) ∧ Hid (Kept (fun b => b ≠ ga) w wr))
  case atStart => exact ⟨i, A, rfl, rfl, ⟨hi, rfl⟩, HU0, HC0, Kept.refl _ _⟩
  case round =>
    obtain ⟨j, A', hg, rfl, HJ, HU, HC, HK⟩ := hrel; have HGk : Hid (gk = r j) := hg; clear hg hi; obtain ⟨x, hx⟩ := HU.out.get HJ.out.1; obtain ⟨y, hy⟩ := HU.out.get (HU.out.lt j x hx); have hb := HC.out.blk; rw [HU.out.len] at hb; obtain ⟨b0, b1, -⟩ := blk2 hb; have d1 := HC.out.cell hx; have d2 := HC.out.cell hy; have d3 : wr.frozen? ⟨ga, j, none⟩ = false := row_fz HC.out.row j; (have jI : (j : Int) < (n : Int) := by have := HJ.out.1; omega); (have xI : (x : Int) < (n : Int) := by have := HU.out.lt j x hx; omega); by_cases hxj : x = j
    · subst hxj
      have HE : Hid (c x = x) := HU.out.root x hx; (have hnq : ((x : Int) != (x : Int)) = false := by simp); clear hx hy d2 hb; go_wp2_with fail; go_ret; (exact ⟨by rw [← HJ.out.2, HE.out]; rfl, ⟨A', HU.out, HC.out⟩, HK.out⟩)
    · have hnq : ((x : Int) != (j : Int)) = true := by simp; omega
      obtain ⟨u1, u2, u3, u4⟩ := HU.out.halve hx hxj hy; have HU2 : Hid (UF n (A'.set j y) c r) := u1; have HR : Hid (r y < r j ∧ c y = c j ∧ y < n) := ⟨u2, u3, u4⟩; obtain ⟨V, hV⟩ : ∃ V, V = wr.setCell ⟨ga, j, none⟩ (.int .i64 (y : Nat)) := ⟨_, rfl⟩; (have HC2 : Hid (ClsAt V bc ga ca (A'.set j y) cnt) := by rw [hV]; exact HC.out.put j y); (have HK2 : Hid (Kept (fun b => b ≠ ga) w V) := by rw [hV]; exact HK.out.setCell (fun _ hn => hn rfl) _); have hb2 := HC2.out.blk; rw [HU2.out.len] at hb2; obtain ⟨f0, f1, -⟩ := blk2 hb2; (have f2 : V.cell? ⟨ga, j, none⟩ = some (.int .i64 (y : Nat)) := HC2.out.cell (by rw [List.getElem?_set_self (List.getElem?_eq_some_iff.1 hx).1])); have hVe := hV.symm; have z0 : bc ≠ ga := HC.out.ne; (have z1 : ¬ ga = bc := fun e => z0 e.symm); clear hx hy hb u1 u2 u3 u4 hV hb2 hxj; go_wp2_with fail
      go_region
      go_wp2_with fail
      go_roundg (r y)
      case measure => have := HGk.out; have := HR.out.1; omega
      case rel => exact ⟨y, A'.set j y, rfl, rfl, ⟨HR.out.2.2, HR.out.2.1.trans HJ.out.2⟩, HU2, ⟨HC2.out.blk, HC2.out.row⟩, HK2.out.drew⟩
/-- Classes in memory, as they are asked. -/
def CS (w : World) (bc ga ca n : Nat) (c : Nat → Nat) (cnt : Int) : Prop := ∃ A r, UF n A c r ∧ ClsAt w bc ga ca A cnt
theorem CS.up {w w' : World} {bc ga ca n : Nat} {c : Nat → Nat} {cnt : Int} (h : CS w bc ga ca n c cnt) (hb : Below w.heap.size w w') : CS w' bc ga ca n c cnt := by
  obtain ⟨A, r, h1, h2⟩ := h; exact ⟨A, r, h1, h2.up hb⟩
theorem CS.cls {w : World} {bc ga ca n : Nat} {c : Nat → Nat} {cnt : Int} (h : CS w bc ga ca n c cnt) : Cls n c := by
  obtain ⟨A, r, h1, -⟩ := h; exact h1.toCls
theorem CS.read {w : World} {bc ga ca n : Nat} {c : Nat → Nat} {cnt : Int} (h : CS w bc ga ca n c cnt) : w.heap[bc]? = some (.cells #[.slice (some ⟨ga, 0, none⟩) n ca, .int .i64 cnt] 121 (0, 0)) ∧ bc ≠ ga ∧ n ≤ ca ∧ (∀ j, w.frozen? ⟨ga, j, none⟩ = false) ∧ ∀ j, j < n → ∃ x : Nat, w.cell? ⟨ga, j, none⟩ = some (.int .i64 (x : Nat)) := by
  obtain ⟨A, r, h1, h2⟩ := h; have hb := h2.blk; have hc := (rowM_caps h2.row).1; rw [h1.len] at hb hc; (refine ⟨hb, h2.ne, hc, fun j => row_fz h2.row j, fun j hj => ?_⟩); obtain ⟨x, hx⟩ := h1.get hj; exact ⟨x, h2.cell hx⟩
theorem ofC_any {n : Nat} (hn : n ≤ 1000) (c : Nat → Nat) (bc ga ca : Nat) (cnt : Int) (i : Nat) (hi : i < n) (w : World) (h : CS w bc ga ca n c cnt) :
    Calls Try.prog 96 #[.pointer (some ⟨bc, 0, none⟩), .int .i64 (i : Nat)] w fun e w' => e = .returned (.int .i64 (c i : Nat)) ∧ CS w' bc ga ca n c cnt ∧ Kept (fun b => b ≠ ga) w w' := by
  obtain ⟨A, r, h1, h2⟩ := h; refine (of_any hn c r bc ga ca cnt A h1 i hi w h2).mono ?_; rintro e w' ⟨h3, ⟨A', h4, h5⟩, h6⟩; exact ⟨h3, ⟨A', r, h4, h5⟩, h6⟩
set_option maxHeartbeats 1000000 in
theorem isOne_any {n : Nat} (hn : n ≤ 1000) (c : Nat → Nat) (bc ga ca : Nat) (cnt : Int) (x y : Nat) (hx : x < n) (hy : y < n) (w : World) (h : CS w bc ga ca n c cnt) :
    Calls Try.prog 71 #[.pointer (some ⟨bc, 0, none⟩), .int .i64 (x : Nat), .int .i64 (y : Nat)] w fun e w' => e = .returned (.bool (decide (c x = c y))) ∧ CS w' bc ga ca n c cnt ∧ Kept (fun b => b ≠ ga) w w' := by
  (have HO : Hid (∀ i, i < n → ∀ w, CS w bc ga ca n c cnt → Calls Try.prog 96 #[.pointer (some ⟨bc, 0, none⟩), .int .i64 (i : Nat)] w fun e w' => e = .returned (.int .i64 (c i : Nat)) ∧ CS w' bc ga ca n c cnt ∧ Kept (fun b => b ≠ ga) w w') := fun i hi w h => ofC_any hn c bc ga ca cnt i hi w h); have HC : Hid (CS w bc ga ca n c cnt) := h; have HX : Hid (x < n) := hx; have HY : Hid (y < n) := hy; clear hn h hx hy
  go_enter Try.func71, Try.ntmps71
  go_wp2_with fail; refine (HO.out x HX.out _ HC.out).mono ?_; rintro _ w1 ⟨rfl, hc1, hk1⟩; have HC1 : Hid (CS w1 bc ga ca n c cnt) := hc1; (have HK1 : Hid (Kept (fun b => b ≠ ga) w w1) := hk1); clear hc1 hk1; go_wp2_with fail; refine (HO.out y HY.out _ HC1.out).mono ?_; rintro _ w2 ⟨rfl, hc2, hk2⟩; have HC2 : Hid (CS w2 bc ga ca n c cnt) := hc2; (have HK2 : Hid (Kept (fun b => b ≠ ga) w w2) := HK1.out.trans hk2); clear hc2 hk2
  have HD : Hid (((c x : Int) == (c y : Int)) = decide (c x = c y)) := by
    show _ = _; rw [Bool.eq_iff_iff, beq_iff_eq, decide_eq_true_iff]; omega
  go_wp2_with fail; go_ret; (exact ⟨by rw [← HD.out]; rfl, HC2.out, HK2.out⟩)
theorem set2B {w : World} {b : Nat} {x0 x1 : Value} {T : TypeId} (h : w.heap[b]? = some (.cells #[x0, x1] T (0, 0))) (v : Value) : (w.setCell ⟨b, 1, none⟩ v).heap[b]? = some (.cells #[x0, v] T (0, 0)) := by
  simp [World.setCell, Array.getElem?_modify, h]
theorem set2A {w : World} {b : Nat} {x0 x1 : Value} {T : TypeId} (h : w.heap[b]? = some (.cells #[x0, x1] T (0, 0))) (v : Value) : (w.setCell ⟨b, 0, none⟩ v).heap[b]? = some (.cells #[v, x1] T (0, 0)) := by
  simp [World.setCell, Array.getElem?_modify, h]
structure StUn (w : World) (bc ga ca n : Nat) (c : Nat → Nat) (cnt : Int) (x y : Nat) (l11 : Bool) (wx : World) : Prop where
  cs : CS wx bc ga ca n (cond l11 (mergeC c x y) c) cnt
  kept : Kept (fun b => b ≠ ga) w wx
theorem StUn.store {w wx : World} {bc ga ca n : Nat} {c : Nat → Nat} {cnt : Int} {x y : Nat} (h : StUn w bc ga ca n c cnt x y false wx) (hx : x < n) (hy : y < n) (hne : c x ≠ c y) : StUn w bc ga ca n c cnt x y true (wx.setCell ⟨ga, c x, none⟩ (.int .i64 (c y : Nat))) := by
  obtain ⟨A, r, h1, h2⟩ := h.cs; obtain ⟨r', h3⟩ := UF.unite h1 hx hy hne; (exact ⟨⟨_, r', h3, h2.put _ _⟩, h.kept.setCell (fun _ hn => hn rfl) _⟩)
theorem rowU11 (l : List Value) (h0 : l.length = 11) : ∃ x0 x1 x2 x3 x4 x5 x6 x7 x8 x9 x10, l = [x0, x1, x2, x3, x4, x5, x6, x7, x8, x9, x10] := by
  obtain ⟨x0, l1, e0, h1⟩ := cons_lenM h0; obtain ⟨x1, l2, e1, h2⟩ := cons_lenM h1; obtain ⟨x2, l3, e2, h3⟩ := cons_lenM h2; obtain ⟨x3, l4, e3, h4⟩ := cons_lenM h3; obtain ⟨x4, l5, e4, h5⟩ := cons_lenM h4; obtain ⟨x5, l6, e5, h6⟩ := cons_lenM h5; obtain ⟨x6, l7, e6, h7⟩ := cons_lenM h6; obtain ⟨x7, l8, e7, h8⟩ := cons_lenM h7; obtain ⟨x8, l9, e8, h9⟩ := cons_lenM h8; obtain ⟨x9, l10, e9, h10⟩ := cons_lenM h9; obtain ⟨x10, l11, e10, h11⟩ := cons_lenM h10; have e11 : l11 = [] := List.length_eq_zero_iff.1 h11; subst e11 e10 e9 e8 e7 e6 e5 e4 e3 e2 e1 e0; exact ⟨x0, x1, x2, x3, x4, x5, x6, x7, x8, x9, x10, rfl⟩
set_option maxRecDepth 10000 in
set_option maxHeartbeats 4000000 in
theorem unite_any {n : Nat} (hn : n ≤ 1000) (c : Nat → Nat) (bc ga ca : Nat) (x y : Nat) (hx : x < n) (hy : y < n) (w : World) (h : CS w bc ga ca n c (rootsN n c : Nat)) :
    Calls Try.prog 90 #[.pointer (some ⟨bc, 0, none⟩), .int .i64 (x : Nat), .int .i64 (y : Nat)] w fun e w' => e = .returned (.bool (decide (c x ≠ c y))) ∧ CS w' bc ga ca n (mergeC c x y) (rootsN n (mergeC c x y) : Nat) ∧ Kept (fun b => b ≠ ga ∧ b ≠ bc) w w' := by
  have hrn : rootsN n c ≤ 1000 := by
    (have h1 : rootsN n c ≤ n := by unfold rootsN; exact Nat.le_trans (List.length_filter_le _ _) (by rw [List.length_range]; exact Nat.le_refl _)); omega
  (have HO : Hid (∀ i, i < n → ∀ w, CS w bc ga ca n c (rootsN n c : Nat) → Calls Try.prog 96 #[.pointer (some ⟨bc, 0, none⟩), .int .i64 (i : Nat)] w fun e w' => e = .returned (.int .i64 (c i : Nat)) ∧ CS w' bc ga ca n c (rootsN n c : Nat) ∧ Kept (fun b => b ≠ ga) w w') := fun i hi w h => ofC_any hn c bc ga ca _ i hi w h); (have HI : Hid (∀ w, CS w bc ga ca n c (rootsN n c : Nat) → Calls Try.prog 71 #[.pointer (some ⟨bc, 0, none⟩), .int .i64 (x : Nat), .int .i64 (y : Nat)] w fun e w' => e = .returned (.bool (decide (c x = c y))) ∧ CS w' bc ga ca n c (rootsN n c : Nat) ∧ Kept (fun b => b ≠ ga) w w') := fun w h => isOne_any hn c bc ga ca _ x y hx hy w h); have HC : Hid (CS w bc ga ca n c (rootsN n c : Nat)) := h; have HX : Hid (x < n) := hx; have HY : Hid (y < n) := hy; by_cases he : c x = c y
  · rw [decide_eq_true he] at HI
    have hm : mergeC c x y = c := mergeC_same he; (rw [decide_eq_false (fun h9 => h9 he), hm]); clear hm he hn h hx hy
    go_enter Try.func90, Try.ntmps90
    go_wp2_with fail; refine (HI.out _ HC.out).mono ?_; rintro _ w1 ⟨rfl, hc1, hk1⟩; go_wp2_with fail; go_ret; (exact ⟨rfl, hc1, hk1.mono (fun _ _ h => h.1)⟩)
  · rw [decide_eq_false he] at HI
    rw [decide_eq_true he]; have HE : Hid (c x ≠ c y) := he; have HRm : Hid (rootsN n (mergeC c x y) + 1 = rootsN n c) := rootsN_merge h.cls hx hy he; have HL : Hid (c x < n ∧ n ≤ 1000) := ⟨h.cls.lt x hx, hn⟩; obtain ⟨rn, hrn9⟩ : ∃ rn, rn = rootsN n c := ⟨_, rfl⟩; obtain ⟨rm, hrm9⟩ : ∃ rm, rm = rootsN n (mergeC c x y) := ⟨_, rfl⟩; rw [← hrn9] at HO HI HC HRm hrn; rw [← hrm9] at HRm ⊢; (have hrnI : (rn : Int) ≤ 1000 := by omega); (have hrm1 : (rn : Int) - 1 = (rm : Int) := by have := HRm.out; omega); (have hrp : (1 : Int) ≤ (rn : Int) := by have := HRm.out; omega); clear he hn h hx hy hrn9 hrm9 hrn
    go_enter Try.func90, Try.ntmps90
    go_wp2_with fail; refine (HI.out _ HC.out).mono ?_; rintro _ W ⟨rfl, hc1, hk1⟩; have HCW : Hid (CS W bc ga ca n c (rn : Nat)) := hc1; (have HKW : Hid (Kept (fun b => b ≠ ga) w W) := hk1); clear hc1 hk1; go_wp2_with fail; (refine wp_region_gh (by kernel_rfl) (by kernel_rfl) (by kernel_rfl) 29 rfl (by kernel_rfl) [fun _ v _ => v = (.pointer (some ⟨bc, 0, none⟩)), fun _ v _ => v = (.pointer (some ⟨bc, 0, none⟩)), fun _ v _ => v = (.pointer (some ⟨bc, 0, none⟩)), fun _ v _ => v = (.slice (some ⟨ga, 0, none⟩) n ca), fun _ v _ => v = (.pointer (some ⟨bc, 0, none⟩)), fun _ v _ => v = (.int .i64 (x : Nat)), fun _ v _ => v = (.int .i64 (c x : Nat)), fun _ v _ => v = (.pointer (some ⟨bc, 0, none⟩)), fun _ v _ => v = (.int .i64 (y : Nat)), fun _ v _ => v = (.int .i64 (c y : Nat)), fun _ v _ => v = (.pointer (some ⟨ga, c x, none⟩)), fun _ _ _ => True] (fun _ _ => true) (fun L (_ : Unit) => StUn W bc ga ca n c (rn : Nat) x y (L 11)) (()) ?_ ?_ ?_)
    · exact fun wx h1 h2 => ⟨HCW.out.up h1, kept_of_below h1 (fun _ h _ => h)⟩
    · refine ⟨?_, ?_, ?_, ?_, ?_, ?_, ?_, ?_, ?_, ?_, ?_, ?_, trivial⟩
      · intro L y0 a wx hSt hLi hdl hcl hold hdep K hK
        have HSt : Hid (StUn W bc ga ca n c (rn : Nat) x y (L 11) wx) := hSt; clear hSt; have t0 : a.tmps[0]? = some (.pointer (some ⟨bc, 0, none⟩)) := hold 0 rfl; clear hold hdep hdl hcl hLi; go_simp; (exact hK.out _ _ y0 HSt.out rfl (fun j hj hl => ⟨rfl, fun u h => h⟩))
      · intro L y0 a wx hSt hLi hdl hcl hold hdep K hK
        have HSt : Hid (StUn W bc ga ca n c (rn : Nat) x y (L 11) wx) := hSt; clear hSt; obtain ⟨v11, t11, q11⟩ := hdep 0 rfl _ 11 rfl rfl; have e11 : v11 = (.pointer (some ⟨bc, 0, none⟩)) := q11 rfl; subst e11; clear hold hdep hdl hcl hLi; go_simp; (exact hK.out _ _ y0 HSt.out rfl (fun j hj hl => ⟨rfl, fun u h => h⟩))
      · intro L y0 a wx hSt hLi hdl hcl hold hdep K hK
        have HSt : Hid (StUn W bc ga ca n c (rn : Nat) x y (L 11) wx) := hSt; clear hSt; obtain ⟨v12, t12, q12⟩ := hdep 1 rfl _ 12 rfl rfl; have e12 : v12 = (.pointer (some ⟨bc, 0, none⟩)) := q12 rfl; subst e12; clear hold hdep hdl hcl hLi; go_simp; (exact hK.out _ _ y0 HSt.out rfl (fun j hj hl => ⟨rfl, fun u h => h⟩))
      · intro L y0 a wx hSt hLi hdl hcl hold hdep K hK
        have HSt : Hid (StUn W bc ga ca n c (rn : Nat) x y (L 11) wx) := hSt; clear hSt; obtain ⟨v13, t13, q13⟩ := hdep 2 rfl _ 13 rfl rfl; have e13 : v13 = (.pointer (some ⟨bc, 0, none⟩)) := q13 rfl; subst e13; obtain ⟨hb9, -⟩ := HSt.out.cs.read; obtain ⟨d0, d1, -⟩ := blk2 hb9; clear hb9; clear hold hdep hdl hcl hLi; go_simp; (exact hK.out _ _ y0 HSt.out rfl (fun j hj hl => ⟨rfl, fun u h => h⟩))
      · intro L y0 a wx hSt hLi hdl hcl hold hdep K hK
        have HSt : Hid (StUn W bc ga ca n c (rn : Nat) x y (L 11) wx) := hSt; clear hSt; have t0 : a.tmps[0]? = some (.pointer (some ⟨bc, 0, none⟩)) := hold 0 rfl; clear hold hdep hdl hcl hLi; go_simp; (exact hK.out _ _ y0 HSt.out rfl (fun j hj hl => ⟨rfl, fun u h => h⟩))
      · intro L y0 a wx hSt hLi hdl hcl hold hdep K hK
        have HSt : Hid (StUn W bc ga ca n c (rn : Nat) x y (L 11) wx) := hSt; clear hSt; have t1 : a.tmps[1]? = some (.int .i64 (x : Nat)) := hold 1 rfl; clear hold hdep hdl hcl hLi; go_simp; (exact hK.out _ _ y0 HSt.out rfl (fun j hj hl => ⟨rfl, fun u h => h⟩))
      · intro L y0 a wx hSt hLi hdl hcl hold hdep K hK
        have HSt : Hid (StUn W bc ga ca n c (rn : Nat) x y (L 11) wx) := hSt; clear hSt; obtain ⟨v15, t15, q15⟩ := hdep 4 rfl _ 15 rfl rfl; have e15 : v15 = (.pointer (some ⟨bc, 0, none⟩)) := q15 rfl; subst e15; obtain ⟨v16, t16, q16⟩ := hdep 5 rfl _ 16 rfl rfl; have e16 : v16 = (.int .i64 (x : Nat)) := q16 rfl; subst e16; (have e11 : L 11 = false := not_yet hLi fun h => hcl 10 _ rfl (hcl 11 _ rfl h 10 rfl) 6 rfl); have hS : StUn W bc ga ca n c (rn : Nat) x y (L 11) wx := HSt.out; rw [e11] at hS; have HW : Hid (Calls Try.prog 96 #[.pointer (some ⟨bc, 0, none⟩), .int .i64 (x : Nat)] wx _) := HO.out x HX.out wx hS.cs; (have HKx : Hid (Kept (fun b => b ≠ ga) W wx) := hS.kept); clear hS; clear hold hdep hdl; go_simp; refine HW.out.mono ?_; rintro _ w9 ⟨rfl, hc9, hk9⟩
        have HX9 : Hid (StUn W bc ga ca n c (rn : Nat) x y (L 11) w9) := by
          rw [e11]; exact ⟨hc9, HKx.out.trans hk9⟩
        clear hc9 hk9; go_simp; refine hK.out _ _ y0 HX9.out rfl ?_; intro j hj hl
        rcases j with _ | _ | _ | _ | _ | _ | _ | _ | _ | _ | _ | _ | j
        · exact ⟨rfl, fun u h => h⟩
        · exact ⟨rfl, fun u h => h⟩
        · exact ⟨rfl, fun u h => h⟩
        · exact ⟨rfl, fun u h => h⟩
        · exact ⟨rfl, fun u h => h⟩
        · exact ⟨rfl, fun u h => h⟩
        · exact Bool.noConfusion (hLi.symm.trans hj)
        · exact ⟨rfl, fun u h => h⟩
        · exact ⟨rfl, fun u h => h⟩
        · exact ⟨rfl, fun u h => h⟩
        · exact ⟨rfl, fun u h => h⟩
        · exact ⟨rfl, fun u h => h⟩
        · exact ⟨rfl, fun u h => h⟩
      · intro L y0 a wx hSt hLi hdl hcl hold hdep K hK
        have HSt : Hid (StUn W bc ga ca n c (rn : Nat) x y (L 11) wx) := hSt; clear hSt; have t0 : a.tmps[0]? = some (.pointer (some ⟨bc, 0, none⟩)) := hold 0 rfl; clear hold hdep hdl hcl hLi; go_simp; (exact hK.out _ _ y0 HSt.out rfl (fun j hj hl => ⟨rfl, fun u h => h⟩))
      · intro L y0 a wx hSt hLi hdl hcl hold hdep K hK
        have HSt : Hid (StUn W bc ga ca n c (rn : Nat) x y (L 11) wx) := hSt; clear hSt; have t2 : a.tmps[2]? = some (.int .i64 (y : Nat)) := hold 2 rfl; clear hold hdep hdl hcl hLi; go_simp; (exact hK.out _ _ y0 HSt.out rfl (fun j hj hl => ⟨rfl, fun u h => h⟩))
      · intro L y0 a wx hSt hLi hdl hcl hold hdep K hK
        have HSt : Hid (StUn W bc ga ca n c (rn : Nat) x y (L 11) wx) := hSt; clear hSt; obtain ⟨v18, t18, q18⟩ := hdep 7 rfl _ 18 rfl rfl; have e18 : v18 = (.pointer (some ⟨bc, 0, none⟩)) := q18 rfl; subst e18; obtain ⟨v19, t19, q19⟩ := hdep 8 rfl _ 19 rfl rfl; have e19 : v19 = (.int .i64 (y : Nat)) := q19 rfl; subst e19; (have e11 : L 11 = false := not_yet hLi fun h => hcl 11 _ rfl h 9 rfl); have hS : StUn W bc ga ca n c (rn : Nat) x y (L 11) wx := HSt.out; rw [e11] at hS; have HW : Hid (Calls Try.prog 96 #[.pointer (some ⟨bc, 0, none⟩), .int .i64 (y : Nat)] wx _) := HO.out y HY.out wx hS.cs; (have HKx : Hid (Kept (fun b => b ≠ ga) W wx) := hS.kept); clear hS; clear hold hdep hdl; go_simp; refine HW.out.mono ?_; rintro _ w9 ⟨rfl, hc9, hk9⟩
        have HX9 : Hid (StUn W bc ga ca n c (rn : Nat) x y (L 11) w9) := by
          rw [e11]; exact ⟨hc9, HKx.out.trans hk9⟩
        clear hc9 hk9; go_simp; refine hK.out _ _ y0 HX9.out rfl ?_; intro j hj hl
        rcases j with _ | _ | _ | _ | _ | _ | _ | _ | _ | _ | _ | _ | j
        · exact ⟨rfl, fun u h => h⟩
        · exact ⟨rfl, fun u h => h⟩
        · exact ⟨rfl, fun u h => h⟩
        · exact ⟨rfl, fun u h => h⟩
        · exact ⟨rfl, fun u h => h⟩
        · exact ⟨rfl, fun u h => h⟩
        · exact ⟨rfl, fun u h => h⟩
        · exact ⟨rfl, fun u h => h⟩
        · exact ⟨rfl, fun u h => h⟩
        · exact Bool.noConfusion (hLi.symm.trans hj)
        · exact ⟨rfl, fun u h => h⟩
        · exact ⟨rfl, fun u h => h⟩
        · exact ⟨rfl, fun u h => h⟩
      · intro L y0 a wx hSt hLi hdl hcl hold hdep K hK
        have HSt : Hid (StUn W bc ga ca n c (rn : Nat) x y (L 11) wx) := hSt; clear hSt; obtain ⟨v14, t14, q14⟩ := hdep 3 rfl _ 14 rfl rfl; have e14 : v14 = (.slice (some ⟨ga, 0, none⟩) n ca) := q14 rfl; subst e14; obtain ⟨v17, t17, q17⟩ := hdep 6 rfl _ 17 rfl rfl; have e17 : v17 = (.int .i64 (c x : Nat)) := q17 rfl; subst e17; have hl9 := HL.out; obtain ⟨-, -, hc9, -⟩ := HSt.out.cs.read; (have hi9 : (c x : Int) < (n : Int) := by omega); (have hi8 : (n : Int) ≤ (ca : Int) := by omega); (have hi7 : (n : Int) ≤ 1000 := by omega); clear hl9 hc9; clear hold hdep hdl hcl hLi; go_simp; (exact hK.out _ _ y0 HSt.out rfl (fun j hj hl => ⟨rfl, fun u h => h⟩))
      · intro L y0 a wx hSt hLi hdl hcl hold hdep K hK
        have HSt : Hid (StUn W bc ga ca n c (rn : Nat) x y (L 11) wx) := hSt; clear hSt; obtain ⟨v21, t21, q21⟩ := hdep 10 rfl _ 21 rfl rfl; have e21 : v21 = (.pointer (some ⟨ga, c x, none⟩)) := q21 rfl; subst e21; obtain ⟨v20, t20, q20⟩ := hdep 9 rfl _ 20 rfl rfl; have e20 : v20 = (.int .i64 (c y : Nat)) := q20 rfl; subst e20; have hS : StUn W bc ga ca n c (rn : Nat) x y (L 11) wx := HSt.out; rw [hLi] at hS; obtain ⟨-, -, -, hf9, hc9⟩ := hS.cs.read; obtain ⟨q9, d0⟩ := hc9 (c x) HL.out.1; have d1 := hf9 (c x); have hS9 := hS.store HX.out HY.out HE.out; have HX9 : Hid (StUn W bc ga ca n c (rn : Nat) x y true (wx.setCell ⟨ga, c x, none⟩ (.int .i64 (c y : Nat)))) := hS9; clear hS hf9 hc9 hS9; clear hold hdep hdl hcl; go_simp; obtain ⟨Z9, hZ9⟩ : ∃ Z, Z = wx.setCell ⟨ga, c x, none⟩ (.int .i64 (c y : Nat)) := ⟨_, rfl⟩; rw [← hZ9] at HX9 ⊢; clear hZ9; refine hK.out (.bool false) _ y0 HX9.out trivial ?_; intro j hj hl
        rcases j with _ | _ | _ | _ | _ | _ | _ | _ | _ | _ | _ | _ | j
        · exact ⟨rfl, fun u h => h⟩
        · exact ⟨rfl, fun u h => h⟩
        · exact ⟨rfl, fun u h => h⟩
        · exact ⟨rfl, fun u h => h⟩
        · exact ⟨rfl, fun u h => h⟩
        · exact ⟨rfl, fun u h => h⟩
        · exact ⟨rfl, fun u h => h⟩
        · exact ⟨rfl, fun u h => h⟩
        · exact ⟨rfl, fun u h => h⟩
        · exact ⟨rfl, fun u h => h⟩
        · exact ⟨rfl, fun u h => h⟩
        · exact Bool.noConfusion (hLi.symm.trans hj)
        · exact ⟨rfl, fun u h => h⟩
    · intro L y0 a wx hall hSt hsz hdf hold hgot
      have e11 : L 11 = true := hall 11 (Nat.le_of_ble_eq_true rfl); have hS : StUn W bc ga ca n c (rn : Nat) x y (L 11) wx := hSt; rw [e11] at hS; have HXc : Hid (CS wx bc ga ca n (mergeC c x y) (rn : Nat)) := hS.cs; (have HXk : Hid (Kept (fun b => b ≠ ga) w wx) := HKW.out.trans hS.kept); obtain ⟨tm, df⟩ := a; (obtain ⟨ys, hys, htm, rfl⟩ := frame_mid2 11 11 (by kernel_rfl) (Nat.le_of_ble_eq_true rfl) ⟨hsz, hdf, hold⟩); obtain ⟨x11, x12, x13, x14, x15, x16, x17, x18, x19, x20, x21, rfl⟩ := rowU11 ys hys; simp only [List.take_succ_cons, List.take_zero, List.drop_succ_cons, List.drop_zero, List.cons_append, List.nil_append] at htm; subst htm; clear hS hSt hys hold hgot hall hsz hdf e11; obtain ⟨hb9, hne9, -⟩ := HXc.out.read; have HB9 : Hid (wx.heap[bc]? = some (.cells #[.slice (some ⟨ga, 0, none⟩) n ca, .int .i64 (rn : Nat)] 121 (0, 0))) := hb9; obtain ⟨d0, d1, d2, d3⟩ := blk2 hb9; obtain ⟨Z, hZ⟩ : ∃ Z, Z = wx.setCell ⟨bc, 1, none⟩ (.int .i64 (rm : Nat)) := ⟨_, rfl⟩
      have HZc : Hid (CS Z bc ga ca n (mergeC c x y) (rm : Nat)) := by
        obtain ⟨A, r, h1, h2⟩ := HXc.out; refine ⟨A, r, h1, ?_, ?_⟩
        · rw [hZ]
          exact set2B h2.blk _
        · rw [hZ]
          exact rowM_move h2.row fun g cur e hg => Below.heap_setCell _ _ _ _ fun e2 => by
            have e3 : g = bc := e2
            cases e
            exact h2.ne e3.symm
      (have HZk : Hid (Kept (fun b => b ≠ ga ∧ b ≠ bc) w Z) := by rw [hZ]; exact (HXk.out.mono (fun _ _ h => h.1)).setCell (fun _ hn => hn.2 rfl) _); have hZe := hZ.symm; clear hZ hb9 hne9; go_wp2_with fail; go_ret; exact ⟨rfl, HZc.out, HZk.out⟩
set_option maxRecDepth 10000 in
set_option maxHeartbeats 4000000 in
theorem newClasses_any (n : Nat) (hn : n ≤ 1000) (hn0 : 0 < n) (w : World) :
    Calls Try.prog 88 #[.int .i64 (n : Nat)] w fun e w' => ∃ ga ca, e = .returned (.pointer (some ⟨w.heap.size, 0, none⟩)) ∧ CS w' w.heap.size ga ca n (fun i => i) (n : Nat) ∧ w.heap.size ≤ ga ∧ Below w.heap.size w w' := by
  (have hnI : (n : Int) ≤ 1000 := by omega); have HN : Hid (n ≤ 1000 ∧ 0 < n) := ⟨hn, hn0⟩; obtain ⟨X, hX⟩ : ∃ X, X = w.alloc (.cells #[.slice none 0 0, .int .i64 (n : Nat)] 121 (0, 0)) := ⟨_, rfl⟩; (have HBX : Hid (Below w.heap.size w X) := by rw [hX]; exact below_more (Below.refl _ _) _); (have HXq : Hid (X.heap[w.heap.size]? = some (.cells #[.slice none 0 0, .int .i64 (n : Nat)] 121 (0, 0))) := by rw [hX]; exact blk_new _ _); clear hn hn0
  go_enter Try.func88, Try.ntmps88
  go_wp2_with fail; rw [← hX]; clear hX
  go_loopg [9] n (fun gg cc wr => ∃ i ad cp, i ≤ n ∧ gg = n - i ∧ cc = .int .i64 (i : Nat) ∧ Hid (wr.heap[w.heap.size]? = some (.cells #[.slice ad i cp, .int .i64 (n : Nat)] 121 (0, 0))) ∧ Hid (wr.ownsRow (w.heap.size + 1) 3 1 (.slice ad i cp) i ((List.range i).map encI)) ∧ Hid (Below w.heap.size w wr) ∧ Hid (w.heap.size + 1 ≤ wr.heap.size))
  case atStart => exact ⟨0, none, 0, by omega, by omega, rfl, HXq, ⟨rfl, Or.inl ⟨rfl, rfl⟩⟩, HBX, lt_of_block HXq.out⟩
  case round =>
    obtain ⟨i, ad, cp, hi, hg, rfl, HQ, HO, HB, HS⟩ := hrel; have HGk : Hid (gk = n - i) := hg; clear hg; obtain ⟨q0, q1, q2, q3⟩ := blk2 HQ.out; by_cases hlt : i < n
    · have hltI : (i : Int) < (n : Int) := by omega
      have HI : Hid (i < n) := hlt; obtain ⟨i0, hi0, hz0, hz1, hz2⟩ := infoI9; have zq := lt_of_block HQ.out; clear hlt hi
      go_wp2_with (first
        | (at_builtin
           have hsz := HB.out.size; have hnn := HN.out; have hii := HI.out; have hss := HS.out; have hown := rowM_up HO.out ((Below.refl _ wr).alloc (Nat.le_refl _) (.cells #[.int .i64 (i : Nat)] 3 (0, 0))); (refine wpList_append_lies _ rfl _ _ 70 rfl (w.heap.size + 1) 3 i0 (.int .i64 0) 1 8 Try.underlying70 hi0 hz0 hz1 hz2 rfl (by decide) (.slice ad i cp) i ((List.range i).map encI) rfl hown ⟨wr.heap.size, 0, none⟩ 1 1 [.int .i64 (i : Nat)] rfl rfl ?_ ?_ (by omega) (by unfold maxLen; omega) (by omega) (by simp; omega) _ rfl ?_)
           · intro j u hu
             rw [add_none, Nat.zero_add, blk_cell (blk_new wr _)]; simpa using hu
           · intro u hu
             simp at hu; subst hu; rfl
           intro g3 cp3 w3 hown3 hgrow hat hlt3; have hgrow' : (wr.alloc (.cells #[.int .i64 (i : Nat)] 3 (0, 0))).grownBy w3 (Value.slice ad i cp).ownBlock := hgrow; have hlow := HO.out.lt; (have HB3 : Hid (Below w.heap.size w w3) := ((HB.out.alloc hsz _).grown hgrow' (by simp; omega) fun k hk => by have := (hlow k hk).1; omega)); (have HQ3 : Hid (w3.heap[w.heap.size]? = some (.cells #[.slice ad i cp, .int .i64 (n : Nat)] 121 (0, 0))) := ((hgrow'.block _ (by simp; omega) fun e => by have := (hlow _ e.symm).1; omega).trans (Below.heap_alloc _ _ _ zq)).trans HQ.out); have HO3 : Hid (w3.ownsRow (w.heap.size + 1) 3 1 (.slice (some ⟨g3, 0, none⟩) (i + 1) cp3) (i + 1) ((List.range i).map encI ++ [.int .i64 (i : Nat)])) := hown3; (have HS3 : Hid (w.heap.size + 1 ≤ w3.heap.size) := by have := hgrow'.size; simp at this; show _ ≤ _; omega); clear hgrow hgrow' hat hown3 hown hlow hsz hlt3 hi0 hz0 hz1 hz2 hnn hii hss q0 q1 q2 q3 zq; obtain ⟨q0, q1, q2, q3⟩ := blk2 HQ3.out; obtain ⟨Z, hZ⟩ : ∃ Z, Z = w3.setCell ⟨w.heap.size, 0, none⟩ (.slice (some ⟨g3, 0, none⟩) (i + 1) cp3) := ⟨_, rfl⟩; (have HZq : Hid (Z.heap[w.heap.size]? = some (.cells #[.slice (some ⟨g3, 0, none⟩) (i + 1) cp3, .int .i64 (n : Nat)] 121 (0, 0))) := by rw [hZ]; exact set2A HQ3.out _)
           have HZo : Hid (Z.ownsRow (w.heap.size + 1) 3 1 (.slice (some ⟨g3, 0, none⟩) (i + 1) cp3) (i + 1) ((List.range i).map encI ++ [.int .i64 (i : Nat)])) := by
             rw [hZ]
             exact rowM_move HO3.out fun g cur e hg => Below.heap_setCell _ _ _ _ fun e2 => by
               have e3 : g = w.heap.size := e2; have := (HO3.out.lt g e).1; omega
           (have HZb : Hid (Below w.heap.size w Z) := by rw [hZ]; exact HB3.out.setCell (p := ⟨w.heap.size, 0, none⟩) (Nat.le_refl _) _); have HZs : Hid (w.heap.size + 1 ≤ Z.heap.size) := lt_of_block HZq.out; have hZe := hZ.symm
           clear hZ)
        | fail)
      go_roundg (n - (i + 1))
      case measure => have := HGk.out; have := HI.out; omega
      case rel =>
        (refine ⟨i + 1, some ⟨g3, 0, none⟩, cp3, HI.out, rfl, by go_num, HZq, ?_, HZb, HZs⟩); rw [List.range_succ, List.map_append]; exact HZo
    · have hii : n = i := by omega
      subst hii; (have hge : ¬ (n : Int) < (n : Int) := by omega); clear hlt hi; go_wp2_with fail; go_ret; have h1 := HO.out; have h0 := HN.out; (obtain ⟨g, rfl, -⟩ := rowM_cells h1 (by omega)); (refine ⟨rfl, g, ⟨cp, List.range n, fun _ => 0, UF.start n, ?_, ?_⟩, ?_, HB.out⟩)
      · rw [List.length_range]
        exact HQ.out
      · rw [List.length_range]
        exact rowM_low h1 (Nat.zero_le _)
      · have := (h1.lt g rfl).1
        omega
end Go.Proofs.Ytealalhgkdlmkai
