/- Texts of one proof, one behind the other: NTJ. -/
import Derived.Test.YtealalhgkdlmkaiB24
/- Walks: whether a net is whole: isWhole. -/
namespace Go.Proofs.Ytealalhgkdlmkai
open Go.RowKit Go.Sort Go.Maps Go.WideMaps

theorem CS.lts {w : World} {bc ga ca n : Nat} {c : Nat → Nat} {cnt : Int} (h : CS w bc ga ca n c cnt) : bc < w.heap.size ∧ ga < w.heap.size := by
  obtain ⟨A, r, h1, h2⟩ := h; exact ⟨lt_of_block h2.blk, (h2.row.lt ga rfl).2⟩
theorem below_kept2 {w U V : World} {ga bc : Nat} (h : Below w.heap.size w U) (hk : Kept (fun b => b ≠ ga ∧ b ≠ bc) U V) (hg : w.heap.size ≤ ga ∧ w.heap.size ≤ bc) : Below w.heap.size w V :=
  h.trans (hk.below h.size fun b hb => by omega)
theorem kept1_2 {U V : World} {ga bc : Nat} (h : Kept (fun b => b ≠ ga) U V) : Kept (fun b => b ≠ ga ∧ b ≠ bc) U V := h.mono fun _ _ h => h.1
theorem blk_kept2 {U V : World} {ga bc b : Nat} {o : Obj} (h : U.heap[b]? = some o) (hk : Kept (fun b => b ≠ ga ∧ b ≠ bc) U V) (hn : b ≠ ga ∧ b ≠ bc) : V.heap[b]? = some o := (hk.block b (lt_of_block h) hn).trans h
/-- What the walk knows of classes: they are told rightly, and links and tensors are joined. -/
structure Knows (nds : List Nd) (E : Nat → Nat → Prop) (i : Nat) (c : Nat → Nat) : Prop where
  snd : Snd nds E c
  link : ∀ p q, E p q → c p = c q
  ten : ∀ (j : Nat) (x : Nd), j < i → nds[j]? = some x → x.k = 2 → c j = c x.a ∧ c j = c x.b
theorem Knows.merge {nds : List Nd} {E : Nat → Nat → Prop} {i : Nat} {c : Nat → Nat} (h : Knows nds E i c) {a b : Nat} (ha : a < nds.length) (hb : b < nds.length) (hab : Cn nds E a b) : Knows nds E i (mergeC c a b) :=
  ⟨merge_snd h.snd ha hb hab, fun p q hpq => merge_coar c a b p q (h.link p q hpq), fun j x hj hx hk => ⟨merge_coar c a b _ _ (h.ten j x hj hx hk).1, merge_coar c a b _ _ (h.ten j x hj hx hk).2⟩⟩
theorem Knows.tensor {nds : List Nd} {E : Nat → Nat → Prop} {i : Nat} {c : Nat → Nat} (h : Knows nds E i c) {x : Nd} (hx : nds[i]? = some x) (hk : x.k = 2) (ha : x.a < nds.length) (hb : x.b < nds.length) : Knows nds E (i + 1) (mergeC (mergeC c i x.a) i x.b) := by
  have hi := (List.getElem?_eq_some_iff.1 hx).1; have h1 := (h.merge hi ha (Cn.ten0 i x hx hk)).merge hi hb (Cn.ten1 i x hx hk); (refine ⟨h1.snd, h1.link, fun j y hj hy hky => ?_⟩)
  rcases Nat.lt_or_ge j i with h2 | h2
  · exact h1.ten j y h2 hy hky
  · rw [show j = i by omega, hx] at hy
    cases hy
    (rw [show j = i by omega]); exact ⟨merge_coar _ _ _ _ _ (merge_join c i x.a), merge_join _ i x.b⟩
theorem Knows.other {nds : List Nd} {E : Nat → Nat → Prop} {i : Nat} {c : Nat → Nat} (h : Knows nds E i c) {x : Nd} (hx : nds[i]? = some x) (hk : x.k ≠ 2) : Knows nds E (i + 1) c :=
  ⟨h.snd, h.link, fun j y hj hy hky => by
    rcases Nat.lt_or_ge j i with h2 | h2
    · exact h.ten j y h2 hy hky
    · rw [show j = i by omega, hx] at hy
      cases hy
      exact absurd hky hk⟩
set_option maxRecDepth 10000 in
set_option maxHeartbeats 8000000 in
theorem isWhole_any (l : List Lm) (hf : ∀ f ∈ l, LFine f) (hs : Lm.sizes l ≤ 200) (hs0 : 0 < Lm.sizes l) (mu : Nat → Option Nat) (hmu : MuOk (lvsL l 0).length mu) (k bp bm : Nat) (B : Bool) (hB : B = true ↔ WholeN (ndsL l 0) (lkE (lvsL l 0) mu)) (w : World) (h : NetAt w bp bm l mu k) :
    Calls Try.prog 62 #[nwV bp bm] w fun e w' => e = .returned (.bool B) ∧ Below w.heap.size w w' := by
  have hnl : (ndsL l 0).length = Lm.sizes l := ndsL_len l 0; have HKi : Hid (KidsIn (ndsL l 0)) := kidsIn_plan hf; have HNt : Hid (NetAt w bp bm l mu k) := h; (have HUL : Hid (∀ W0 bc ga ca c0 W, Below w.heap.size w W0 → Below W0.heap.size W0 W → (W0.heap.size ≤ ga ∧ W0.heap.size ≤ bc) → CS W bc ga ca (ndsL l 0).length c0 (rootsN (ndsL l 0).length c0 : Nat) → Snd (ndsL l 0) (lkE (lvsL l 0) mu) c0 → Calls Try.prog 89 #[.agg #[.pointer (some ⟨bp, 0, none⟩), .map (some bm)], .pointer (some ⟨bc, 0, none⟩)] W fun e w' => e = .returned (.tuple #[]) ∧ (∃ c', CS w' bc ga ca (ndsL l 0).length c' (rootsN (ndsL l 0).length c' : Nat) ∧ Snd (ndsL l 0) (lkE (lvsL l 0) mu) c' ∧ ∀ i j, lkE (lvsL l 0) mu i j → c' i = c' j) ∧ Below W0.heap.size W0 w') := fun W0 bc ga ca c0 W h0 h1 h2 h3 h4 => uniteLinks_any l hs mu hmu k bp bm bc ga ca c0 W0 W (h.up h0) h1 h2 h3 h4); obtain ⟨T, ar, cr, hp, -⟩ := h; have HPl : Hid (PlanA w T bp (.slice ar l.length cr) (ndsL l 0) (lvsL l 0)) := hp; obtain ⟨an, cn, al, cl, h0, -, -, hcn, -, hN, -⟩ := hp.read; obtain ⟨nds, hnds⟩ : ∃ nds, nds = ndsL l 0 := ⟨_, rfl⟩; obtain ⟨E, hE⟩ : ∃ E, E = lkE (lvsL l 0) mu := ⟨_, rfl⟩; rw [← hnds, ← hE] at HUL hB; rw [← hnds] at HKi HPl h0 hcn hN hnl; have HC0 : Hid (w.cell? ⟨bp, 0, none⟩ = some (.slice an nds.length cn)) := h0; have HNd : Hid (∀ (i : Nat) (x : Nd), nds[i]? = some x → ∃ gn, an = some ⟨gn, 0, none⟩ ∧ ∀ j u, j < 5 → x.cells[j]? = some u → w.cell? ⟨gn, i * 5 + j, none⟩ = some u) := hN; (have HNl : Hid (nds.length ≤ 200 ∧ 0 < nds.length) := ⟨by omega, by omega⟩); (have hnI : (nds.length : Int) ≤ 200 := by omega); (have hcnI : (nds.length : Int) ≤ (cn : Int) := by omega); (have HPr : Hid (∀ (i : Nat) (x : Nd), nds[i]? = some x → ∀ W, Below w.heap.size w W → Calls Try.prog 64 #[.pointer (some ⟨bp, 0, none⟩), .int .i64 (i : Nat)] W fun e w' => e = .returned (.bool (x.k == 3)) ∧ w' = W) := fun i x hx W hb => isPar_any hx W (HPl.out.up hb)); (have HTn : Hid (∀ (i : Nat) (x : Nd), nds[i]? = some x → ∀ W, Below w.heap.size w W → Calls Try.prog 69 #[.pointer (some ⟨bp, 0, none⟩), .int .i64 (i : Nat)] W fun e w' => e = .returned (.bool (x.k == 2)) ∧ w' = W) := fun i x hx W hb => isTensor_any hx W (HPl.out.up hb)); (have HNc : Hid (∀ W, Calls Try.prog 88 #[.int .i64 (nds.length : Nat)] W _) := fun W => newClasses_any nds.length (by omega) (by omega) W); (have HUn : Hid (∀ (bc ga ca : Nat) (c : Nat → Nat) x y, x < nds.length → y < nds.length → ∀ w, CS w bc ga ca nds.length c (rootsN nds.length c : Nat) → Calls Try.prog 90 #[.pointer (some ⟨bc, 0, none⟩), .int .i64 (x : Nat), .int .i64 (y : Nat)] w fun e w' => e = .returned (.bool (decide (c x ≠ c y))) ∧ CS w' bc ga ca nds.length (mergeC c x y) (rootsN nds.length (mergeC c x y) : Nat) ∧ Kept (fun b => b ≠ ga ∧ b ≠ bc) w w') := fun bc ga ca c x y hx hy w h => unite_any (by omega) c bc ga ca x y hx hy w h); (have HIo : Hid (∀ (bc ga ca : Nat) (c : Nat → Nat) x y, x < nds.length → y < nds.length → ∀ w, CS w bc ga ca nds.length c (rootsN nds.length c : Nat) → Calls Try.prog 71 #[.pointer (some ⟨bc, 0, none⟩), .int .i64 (x : Nat), .int .i64 (y : Nat)] w fun e w' => e = .returned (.bool (decide (c x = c y))) ∧ CS w' bc ga ca nds.length c (rootsN nds.length c : Nat) ∧ Kept (fun b => b ≠ ga) w w') := fun bc ga ca c x y hx hy w h => isOne_any (by omega) c bc ga ca _ x y hx hy w h); have HBw : Hid (B = true ↔ WholeN nds E) := hB; unfold nwV; obtain ⟨W, hW⟩ : ∃ W, W = w.alloc (.cells #[.pointer (some ⟨bp, 0, none⟩), .map (some bm)] 65 (0, 0)) := ⟨_, rfl⟩; (have HBW : Hid (Below w.heap.size w W) := by rw [hW]; exact below_more (Below.refl _ w) _); (have HX1 : Hid (W.heap[w.heap.size]? = some (.cells #[.pointer (some ⟨bp, 0, none⟩), .map (some bm)] 65 (0, 0))) := by rw [hW]; exact blk_new _ _); obtain ⟨q0, q1, -⟩ := blk2 HX1.out; have c2 := (HBW.out.cell (lt_of_cell HC0.out)).trans HC0.out; have hWe := hW.symm; clear hW hp h0 hnl hs hs0 hf hmu hB hN hcn hnds hE
  go_enter Try.func62, Try.ntmps62
  go_wp2_with fail; refine (HNc.out W).mono ?_; rintro _ w1 ⟨ga, ca, rfl, hc1, hga1, hb1⟩; have HG : Hid (w.heap.size ≤ ga ∧ w.heap.size ≤ W.heap.size) := ⟨Nat.le_trans HBW.out.size hga1, HBW.out.size⟩; obtain ⟨bc, hbc⟩ : ∃ bc, bc = W.heap.size := ⟨_, rfl⟩; rw [← hbc] at hc1 HG
  have HC1 : Hid (CS w1 bc ga ca nds.length (fun i => i) (rootsN nds.length (fun i => i) : Nat)) := by
    rw [rootsN_start]; exact hc1
  have HB1 : Hid (Below w.heap.size w w1) := below_join HBW.out hb1; have HWb : Hid (Below W.heap.size W w1) := hb1; (have HGW : Hid (W.heap.size ≤ ga ∧ W.heap.size ≤ bc) := ⟨hga1, by rw [hbc]; exact Nat.le_refl _⟩); have HX2 : Hid (w1.heap[w.heap.size]? = some (.cells #[.pointer (some ⟨bp, 0, none⟩), .map (some bm)] 65 (0, 0))) := below_keep hb1 HX1.out
  have HXn : Hid (w.heap.size ≠ ga ∧ w.heap.size ≠ bc) := by
    have h1 := lt_of_block HX1.out; (refine ⟨?_, ?_⟩ <;> omega)
  rw [← hbc]; clear hWe q0 q1 c2 hc1 hga1 hb1; obtain ⟨q0, q1, -⟩ := blk2 HX2.out; go_wp2_with fail
  first
  | rw [← hbc]
  | skip
  clear hbc; refine (HUL.out W bc ga ca _ w1 HBW.out HWb.out HGW.out HC1.out (snd_start _ _)).mono ?_; rintro _ w2 ⟨rfl, ⟨c0, hc2, hs2, hl2⟩, hbW2⟩; have hb2 := below_join HBW.out hbW2; have HB2 : Hid (Below w.heap.size w w2) := hb2; have HC2 : Hid (CS w2 bc ga ca nds.length c0 (rootsN nds.length c0 : Nat)) := hc2; (have HK2 : Hid (Knows nds E 0 c0) := ⟨hs2, hl2, fun j x hj => absurd hj (Nat.not_lt_zero _)⟩); have HX3 : Hid (w2.heap[w.heap.size]? = some (.cells #[.pointer (some ⟨bp, 0, none⟩), .map (some bm)] 65 (0, 0))) := below_keep hbW2 HX1.out; clear hc2 hs2 hl2 hb2 hbW2 q0 q1; obtain ⟨q0, q1, -⟩ := blk2 HX3.out; have c2 := (HB2.out.cell (lt_of_cell HC0.out)).trans HC0.out; go_wp2_with fail; clear q0 q1 c2
  go_loopg [25] nds.length (fun gg cc wr => ∃ i c, i ≤ nds.length ∧ gg = nds.length - i ∧ cc = .int .i64 (i : Nat) ∧ Hid (CS wr bc ga ca nds.length c (rootsN nds.length c : Nat)) ∧ Hid (Knows nds E i c) ∧ Hid (Below w.heap.size w wr) ∧ Hid (wr.heap[w.heap.size]? = some (.cells #[.pointer (some ⟨bp, 0, none⟩), .map (some bm)] 65 (0, 0))))
  case atStart => exact ⟨0, c0, by omega, by omega, rfl, HC2, HK2, HB2, HX3⟩
  case round =>
    obtain ⟨i, c, hi, hg, rfl, HCU, HKn, HBU, HXU⟩ := hrel; have HGk : Hid (gk = nds.length - i) := hg; clear hg; obtain ⟨U, hU⟩ : ∃ U, U = wr := ⟨_, rfl⟩; subst hU; by_cases hlt : i < nds.length
    · obtain ⟨⟨xk, xn, xg, xa, xb⟩, hx⟩ : ∃ x, nds[i]? = some x := ⟨_, List.getElem?_eq_getElem hlt⟩
      obtain ⟨gn, rfl, hcc⟩ := HNd.out i _ hx; (have d0 := hcc 0 _ (by omega) rfl); (have d1 := hcc 1 _ (by omega) rfl); (have d2 := hcc 2 _ (by omega) rfl); (have d3 := hcc 3 _ (by omega) rfl); (have d4 := hcc 4 _ (by omega) rfl); have e0 : U.cell? ⟨gn, i * 5, none⟩ = some (.int .i64 xk) := (HBU.out.cell (lt_of_cell d0)).trans d0; have e1 := (HBU.out.cell (lt_of_cell d1)).trans d1; have e2 := (HBU.out.cell (lt_of_cell d2)).trans d2; have e3 := (HBU.out.cell (lt_of_cell d3)).trans d3; have e4 := (HBU.out.cell (lt_of_cell d4)).trans d4; simp only at e0 e1 e2 e3 e4; have HAt : Hid (nds[i]? = some ⟨xk, xn, xg, xa, xb⟩) := hx; have HI : Hid (i < nds.length) := hlt; (have hltI : (i : Int) < (nds.length : Int) := by omega); obtain ⟨Y, hY⟩ : ∃ Y, Y = U.alloc (.cells #[.int .i64 xk, .string xn, .bool xg, .int .i64 (xa : Nat), .int .i64 (xb : Nat)] 119 (0, 0)) := ⟨_, rfl⟩; (have hbY : Below U.heap.size U Y := by rw [hY]; exact below_more (Below.refl _ _) _); have HYb : Hid (Below w.heap.size w Y) := below_join HBU.out hbY; have HYc : Hid (CS Y bc ga ca nds.length c (rootsN nds.length c : Nat)) := HCU.out.up hbY; have HYx : Hid (Y.heap[w.heap.size]? = some (.cells #[.pointer (some ⟨bp, 0, none⟩), .map (some bm)] 65 (0, 0))) := below_keep hbY HXU.out; obtain ⟨by_, hby⟩ : ∃ by_, by_ = U.heap.size := ⟨_, rfl⟩; (have HYy : Hid (Y.heap[by_]? = some (.cells #[.int .i64 xk, .string xn, .bool xg, .int .i64 (xa : Nat), .int .i64 (xb : Nat)] 119 (0, 0))) := by rw [hY, hby]; exact blk_new _ _); (have HYn : Hid (by_ ≠ ga ∧ by_ ≠ bc) := by have h1 := HCU.out.lts; refine ⟨?_, ?_⟩ <;> omega); (obtain ⟨m0, m1, m2, m3, m4, -⟩ := blk5N (show Y.heap[U.heap.size]? = some (.cells #[.int .i64 xk, .string xn, .bool xg, .int .i64 (xa : Nat), .int .i64 (xb : Nat)] 119 (0, 0)) by rw [← hby]; exact HYy.out)); obtain ⟨q0, q1, -⟩ := blk2 HYx.out; have hYe := hY.symm; clear hY hbY hcc d0 d1 d2 d3 d4 hx hlt hi; have HP2 : Hid (Calls Try.prog 69 #[.pointer (some ⟨bp, 0, none⟩), .int .i64 (i : Nat)] Y _) := HTn.out i _ HAt.out Y HYb.out; simp only at HP2
      rcases h2 : (xk == 2) with _ | _
      · rw [h2] at HP2
        (have HKn2 : Hid (Knows nds E (i + 1) c) := HKn.out.other HAt.out (by simpa using h2)); clear h2
        go_wp2_with (first
          | (go_at_call 69; refine HP2.out.mono ?_; rintro e w5 ⟨rfl, rfl⟩)
          | fail)
        go_roundg (nds.length - (i + 1))
        case measure => have := HGk.out; have := HI.out; omega
        case rel => exact ⟨i + 1, c, HI.out, rfl, by go_num, HYc, HKn2, HYb, HYx⟩
      · rw [h2] at HP2
        (have hxk : xk = 2 := by simpa using h2); obtain ⟨hka, hkb⟩ := HKi.out i _ HAt.out (Or.inl hxk); have HKn2 : Hid (Knows nds E (i + 1) (mergeC (mergeC c i xa) i xb)) := HKn.out.tensor HAt.out hxk hka hkb; (have HU1 : Hid (∀ w, CS w bc ga ca nds.length c (rootsN nds.length c : Nat) → Calls Try.prog 90 #[.pointer (some ⟨bc, 0, none⟩), .int .i64 (i : Nat), .int .i64 (xa : Nat)] w _) := fun w h => HUn.out bc ga ca c i xa HI.out hka w h); (have HU2 : Hid (∀ w, CS w bc ga ca nds.length (mergeC c i xa) (rootsN nds.length (mergeC c i xa) : Nat) → Calls Try.prog 90 #[.pointer (some ⟨bc, 0, none⟩), .int .i64 (i : Nat), .int .i64 (xb : Nat)] w _) := fun w h => HUn.out bc ga ca (mergeC c i xa) i xb HI.out hkb w h); clear h2 hxk hka hkb
        go_wp2_with (first
          | (go_at_call 69; refine HP2.out.mono ?_; rintro e w5 ⟨rfl, rfl⟩)
          | fail)
        refine (HU1.out _ HYc.out).mono ?_; rintro _ Y1 ⟨rfl, hcy, hky⟩; have HY1c : Hid (CS Y1 bc ga ca nds.length (mergeC c i xa) (rootsN nds.length (mergeC c i xa) : Nat)) := hcy; have HY1b : Hid (Below w.heap.size w Y1) := below_kept2 HYb.out hky HG.out; have HY1x : Hid (Y1.heap[w.heap.size]? = some (.cells #[.pointer (some ⟨bp, 0, none⟩), .map (some bm)] 65 (0, 0))) := blk_kept2 HYx.out hky HXn.out; have HY1y : Hid (Y1.heap[by_]? = some (.cells #[.int .i64 xk, .string xn, .bool xg, .int .i64 (xa : Nat), .int .i64 (xb : Nat)] 119 (0, 0))) := blk_kept2 HYy.out hky HYn.out; clear hcy hky m0 m1 m2 m3 m4 q0 q1 e0 e1 e2 e3 e4; (obtain ⟨m0, m1, m2, m3, m4, -⟩ := blk5N (show Y1.heap[U.heap.size]? = some (.cells #[.int .i64 xk, .string xn, .bool xg, .int .i64 (xa : Nat), .int .i64 (xb : Nat)] 119 (0, 0)) by rw [← hby]; exact HY1y.out)); go_wp2_with fail; refine (HU2.out _ HY1c.out).mono ?_; rintro _ Y2 ⟨rfl, hcy, hky⟩; have HY2c : Hid (CS Y2 bc ga ca nds.length (mergeC (mergeC c i xa) i xb) (rootsN nds.length (mergeC (mergeC c i xa) i xb) : Nat)) := hcy; have HY2b : Hid (Below w.heap.size w Y2) := below_kept2 HY1b.out hky HG.out; have HY2x : Hid (Y2.heap[w.heap.size]? = some (.cells #[.pointer (some ⟨bp, 0, none⟩), .map (some bm)] 65 (0, 0))) := blk_kept2 HY1x.out hky HXn.out; clear hcy hky; go_wp2_with fail
        go_roundg (nds.length - (i + 1))
        case measure => have := HGk.out; have := HI.out; omega
        case rel => exact ⟨i + 1, _, HI.out, rfl, by go_num, HY2c, HKn2, HY2b, HY2x⟩
    · have hii : nds.length = i := by omega
      subst hii; (have hge : ¬ (nds.length : Int) < (nds.length : Int) := by omega); clear hlt hi HGk; go_wp2_with fail; obtain ⟨cA, hcA⟩ : ∃ cA, cA = c := ⟨_, rfl⟩; (have HCA : Hid (CS U bc ga ca nds.length cA (rootsN nds.length cA : Nat)) := by rw [hcA]; exact HCU.out); (have HKA : Hid (Knows nds E nds.length cA) := by rw [hcA]; exact HKn.out); have HBA : Hid (Below w.heap.size w U) := HBU.out; have HXA : Hid (U.heap[w.heap.size]? = some (.cells #[.pointer (some ⟨bp, 0, none⟩), .map (some bm)] 65 (0, 0))) := HXU.out; clear hcA HCU HKn HBU HXU
      go_loopg [6] (rootsN nds.length cA + 1) (fun gg cc wr => ∃ (b : Bool) (c1 : Nat → Nat), gg = (if b = true then rootsN nds.length c1 + 1 else 0) ∧ cc = .bool b ∧ Hid (CS wr bc ga ca nds.length c1 (rootsN nds.length c1 : Nat)) ∧ Hid (Knows nds E nds.length c1) ∧ Hid (b = false → ∀ (j : Nat) (x : Nd), j < nds.length → nds[j]? = some x → x.k = 3 → c1 x.a = c1 x.b → c1 j = c1 x.a) ∧ Hid (Below w.heap.size w wr) ∧ Hid (wr.heap[w.heap.size]? = some (.cells #[.pointer (some ⟨bp, 0, none⟩), .map (some bm)] 65 (0, 0))))
      case atStart => exact ⟨true, cA, by simp, rfl, HCA, HKA, fun h => (by cases h), HBA, HXA⟩
      case round =>
        obtain ⟨b, c1, hg, rfl, HC1, HK1, HP1, HB1, HX1⟩ := hrel; obtain ⟨V, hV⟩ : ∃ V, V = wr := ⟨_, rfl⟩; subst hV
        cases b
        case false =>
          obtain ⟨hbk, -⟩ := HC1.out.read; obtain ⟨n0, n1, -⟩ := blk2 hbk; (have hsh : Shut nds E c1 := ⟨HK1.out.link, fun j x hx hk => HK1.out.ten j x (List.getElem?_eq_some_iff.1 hx).1 hx hk, fun j x hx hk h => HP1.out rfl j x (List.getElem?_eq_some_iff.1 hx).1 hx hk h⟩); have hwh := shut_whole hsh HK1.out.snd HC1.out.cls HNl.out.2
          have HBe : Hid (((rootsN nds.length c1 : Int) == 1) = B) := by
            show _ = _; rw [Bool.eq_iff_iff, HBw.out, ← hwh, beq_iff_eq]; omega
          clear hg hbk hsh hwh; go_wp2_with fail; go_ret; (exact ⟨by rw [← HBe.out]; rfl, HB1.out⟩)
        case true =>
          (have HGk1 : Hid (gk = rootsN nds.length c1 + 1) := by rw [hg]; rfl); clear hg; obtain ⟨q0, q1, -⟩ := blk2 HX1.out; have c2 := (HB1.out.cell (lt_of_cell HC0.out)).trans HC0.out; go_wp2_with fail; clear q0 q1 c2
          go_loopg [54, 6] nds.length (fun gg cc bb wr => ∃ (i : Nat) (b : Bool) (c : Nat → Nat), i ≤ nds.length ∧ gg = nds.length - i ∧ cc = .int .i64 (i : Nat) ∧ bb = .bool b ∧ Hid (CS wr bc ga ca nds.length c (rootsN nds.length c : Nat)) ∧ Hid (Knows nds E nds.length c) ∧ Hid (rootsN nds.length c ≤ rootsN nds.length c1 ∧ (b = true → rootsN nds.length c < rootsN nds.length c1)) ∧ Hid (b = false → ∀ (j : Nat) (x : Nd), j < i → nds[j]? = some x → x.k = 3 → c x.a = c x.b → c j = c x.a) ∧ Hid (Below w.heap.size w wr) ∧ Hid (wr.heap[w.heap.size]? = some (.cells #[.pointer (some ⟨bp, 0, none⟩), .map (some bm)] 65 (0, 0))))
          case atStart => exact ⟨0, false, c1, by omega, by omega, rfl, rfl, HC1, HK1, ⟨Nat.le_refl _, fun h => (by cases h)⟩, fun _ j x hj => absurd hj (Nat.not_lt_zero _), HB1, HX1⟩
          case round =>
            obtain ⟨i, b, c, hi, hg, rfl, rfl, HCU, HKn, HRn, HPj, HBU, HXU⟩ := hrel; have HGk : Hid (gk = nds.length - i) := hg; clear hg; obtain ⟨U, hU⟩ : ∃ U, U = wr := ⟨_, rfl⟩; subst hU; by_cases hlt : i < nds.length
            · obtain ⟨⟨xk, xn, xg, xa, xb⟩, hx⟩ : ∃ x, nds[i]? = some x := ⟨_, List.getElem?_eq_getElem hlt⟩
              obtain ⟨gn, rfl, hcc⟩ := HNd.out i _ hx; (have d0 := hcc 0 _ (by omega) rfl); (have d1 := hcc 1 _ (by omega) rfl); (have d2 := hcc 2 _ (by omega) rfl); (have d3 := hcc 3 _ (by omega) rfl); (have d4 := hcc 4 _ (by omega) rfl); have e0 : U.cell? ⟨gn, i * 5, none⟩ = some (.int .i64 xk) := (HBU.out.cell (lt_of_cell d0)).trans d0; have e1 := (HBU.out.cell (lt_of_cell d1)).trans d1; have e2 := (HBU.out.cell (lt_of_cell d2)).trans d2; have e3 := (HBU.out.cell (lt_of_cell d3)).trans d3; have e4 := (HBU.out.cell (lt_of_cell d4)).trans d4; simp only at e0 e1 e2 e3 e4; have HAt : Hid (nds[i]? = some ⟨xk, xn, xg, xa, xb⟩) := hx; have HI : Hid (i < nds.length) := hlt; (have hltI : (i : Int) < (nds.length : Int) := by omega); obtain ⟨Y, hY⟩ : ∃ Y, Y = U.alloc (.cells #[.int .i64 xk, .string xn, .bool xg, .int .i64 (xa : Nat), .int .i64 (xb : Nat)] 119 (0, 0)) := ⟨_, rfl⟩; (have hbY : Below U.heap.size U Y := by rw [hY]; exact below_more (Below.refl _ _) _); have HYb : Hid (Below w.heap.size w Y) := below_join HBU.out hbY; have HYc : Hid (CS Y bc ga ca nds.length c (rootsN nds.length c : Nat)) := HCU.out.up hbY; have HYx : Hid (Y.heap[w.heap.size]? = some (.cells #[.pointer (some ⟨bp, 0, none⟩), .map (some bm)] 65 (0, 0))) := below_keep hbY HXU.out; obtain ⟨by_, hby⟩ : ∃ by_, by_ = U.heap.size := ⟨_, rfl⟩; (have HYy : Hid (Y.heap[by_]? = some (.cells #[.int .i64 xk, .string xn, .bool xg, .int .i64 (xa : Nat), .int .i64 (xb : Nat)] 119 (0, 0))) := by rw [hY, hby]; exact blk_new _ _); (have HYn : Hid (by_ ≠ ga ∧ by_ ≠ bc) := by have h1 := HCU.out.lts; refine ⟨?_, ?_⟩ <;> omega); (obtain ⟨m0, m1, m2, m3, m4, -⟩ := blk5N (show Y.heap[U.heap.size]? = some (.cells #[.int .i64 xk, .string xn, .bool xg, .int .i64 (xa : Nat), .int .i64 (xb : Nat)] 119 (0, 0)) by rw [← hby]; exact HYy.out)); obtain ⟨q0, q1, -⟩ := blk2 HYx.out; have hYe := hY.symm; clear hY hbY hcc d0 d1 d2 d3 d4 hx hlt hi; have HP5 : Hid (Calls Try.prog 64 #[.pointer (some ⟨bp, 0, none⟩), .int .i64 (i : Nat)] Y _) := HPr.out i _ HAt.out Y HYb.out; simp only at HP5
              rcases h3 : (xk == 3) with _ | _
              · rw [h3] at HP5
                have HPj2 : Hid (b = false → ∀ (j : Nat) (x : Nd), j < i + 1 → nds[j]? = some x → x.k = 3 → c x.a = c x.b → c j = c x.a) := fun hb j x hj hx hk he => by
                  rcases Nat.lt_or_ge j i with h5 | h5
                  · exact HPj.out hb j x h5 hx hk he
                  · rw [show j = i by omega, HAt.out] at hx
                    cases hx
                    rw [show xk = 3 from hk] at h3
                    cases h3
                clear h3
                go_wp2_with (first
                  | (go_at_call 64; refine HP5.out.mono ?_; rintro e w5 ⟨rfl, rfl⟩)
                  | fail)
                go_roundg (nds.length - (i + 1))
                case measure => have := HGk.out; have := HI.out; omega
                case rel => exact ⟨i + 1, b, c, HI.out, rfl, by go_num, rfl, HYc, HKn, HRn, HPj2, HYb, HYx⟩
              · rw [h3] at HP5
                (have hxk : xk = 3 := by simpa using h3); obtain ⟨hka, hkb⟩ := HKi.out i _ HAt.out (Or.inr hxk); have HXk : Hid (xk = 3 ∧ xa < nds.length) := ⟨hxk, hka⟩; (have HO1 : Hid (∀ w, CS w bc ga ca nds.length c (rootsN nds.length c : Nat) → Calls Try.prog 71 #[.pointer (some ⟨bc, 0, none⟩), .int .i64 (xa : Nat), .int .i64 (xb : Nat)] w _) := fun w h => HIo.out bc ga ca c xa xb hka hkb w h); (have HU1 : Hid (∀ w, CS w bc ga ca nds.length c (rootsN nds.length c : Nat) → Calls Try.prog 90 #[.pointer (some ⟨bc, 0, none⟩), .int .i64 (i : Nat), .int .i64 (xa : Nat)] w _) := fun w h => HUn.out bc ga ca c i xa HI.out hka w h); by_cases hab : c xa = c xb
                · rw [decide_eq_true hab] at HO1
                  have HCn : Hid (Cn nds E i xa) := Cn.par i _ HAt.out hxk (HKn.out.snd _ _ hka hkb hab); have HAb : Hid (c xa = c xb) := hab; clear h3 hxk hka hkb hab
                  go_wp2_with (first
                    | (go_at_call 64; refine HP5.out.mono ?_; rintro e w5 ⟨rfl, rfl⟩)
                    | fail)
                  refine (HO1.out _ HYc.out).mono ?_; rintro _ Y1 ⟨rfl, hcy, hky⟩; have HY1c : Hid (CS Y1 bc ga ca nds.length c (rootsN nds.length c : Nat)) := hcy; have HY1b : Hid (Below w.heap.size w Y1) := below_kept2 HYb.out (kept1_2 hky) HG.out; have HY1x : Hid (Y1.heap[w.heap.size]? = some (.cells #[.pointer (some ⟨bp, 0, none⟩), .map (some bm)] 65 (0, 0))) := blk_kept2 HYx.out (kept1_2 hky) HXn.out; have HY1y : Hid (Y1.heap[by_]? = some (.cells #[.int .i64 xk, .string xn, .bool xg, .int .i64 (xa : Nat), .int .i64 (xb : Nat)] 119 (0, 0))) := blk_kept2 HYy.out (kept1_2 hky) HYn.out; clear hcy hky m0 m1 m2 m3 m4 q0 q1 e0 e1 e2 e3 e4; (obtain ⟨m0, m1, m2, m3, m4, -⟩ := blk5N (show Y1.heap[U.heap.size]? = some (.cells #[.int .i64 xk, .string xn, .bool xg, .int .i64 (xa : Nat), .int .i64 (xb : Nat)] 119 (0, 0)) by rw [← hby]; exact HY1y.out)); go_wp2_with fail; by_cases hix : c i = c xa
                  · refine (HU1.out _ HY1c.out).mono ?_
                    (rw [decide_eq_false (fun h9 => h9 hix), mergeC_same hix]); rintro _ Y2 ⟨rfl, hcy, hky⟩; have HY2c : Hid (CS Y2 bc ga ca nds.length c (rootsN nds.length c : Nat)) := hcy; have HY2b : Hid (Below w.heap.size w Y2) := below_kept2 HY1b.out hky HG.out; have HY2x : Hid (Y2.heap[w.heap.size]? = some (.cells #[.pointer (some ⟨bp, 0, none⟩), .map (some bm)] 65 (0, 0))) := blk_kept2 HY1x.out hky HXn.out
                    have HPj2 : Hid (b = false → ∀ (j : Nat) (x : Nd), j < i + 1 → nds[j]? = some x → x.k = 3 → c x.a = c x.b → c j = c x.a) := fun hb j x hj hx hk he => by
                      rcases Nat.lt_or_ge j i with h5 | h5
                      · exact HPj.out hb j x h5 hx hk he
                      · rw [show j = i by omega, HAt.out] at hx
                        cases hx
                        (rw [show j = i by omega]); exact hix
                    clear hcy hky hix; go_wp2_with fail
                    go_roundg (nds.length - (i + 1))
                    case measure => have := HGk.out; have := HI.out; omega
                    case rel => exact ⟨i + 1, b, c, HI.out, rfl, by go_num, rfl, HY2c, HKn, HRn, HPj2, HY2b, HY2x⟩
                  · have HRm : Hid (rootsN nds.length (mergeC c i xa) + 1 = rootsN nds.length c) := rootsN_merge HCU.out.cls HI.out HXk.out.2 hix
                    refine (HU1.out _ HY1c.out).mono ?_; rw [decide_eq_true hix]; rintro _ Y2 ⟨rfl, hcy, hky⟩; have HY2c : Hid (CS Y2 bc ga ca nds.length (mergeC c i xa) (rootsN nds.length (mergeC c i xa) : Nat)) := hcy; have HY2b : Hid (Below w.heap.size w Y2) := below_kept2 HY1b.out hky HG.out; have HY2x : Hid (Y2.heap[w.heap.size]? = some (.cells #[.pointer (some ⟨bp, 0, none⟩), .map (some bm)] 65 (0, 0))) := blk_kept2 HY1x.out hky HXn.out; have HKn2 : Hid (Knows nds E nds.length (mergeC c i xa)) := HKn.out.merge HI.out HXk.out.2 HCn.out; clear hcy hky hix; go_wp2_with fail
                    go_roundg (nds.length - (i + 1))
                    case measure => have := HGk.out; have := HI.out; omega
                    case rel => exact ⟨i + 1, true, _, HI.out, rfl, by go_num, rfl, HY2c, HKn2, ⟨by have := HRn.out.1; have := HRm.out; omega, fun _ => by have := HRn.out.1; have := HRm.out; omega⟩, fun h => (by cases h), HY2b, HY2x⟩
                · rw [decide_eq_false hab] at HO1
                  have HPj2 : Hid (b = false → ∀ (j : Nat) (x : Nd), j < i + 1 → nds[j]? = some x → x.k = 3 → c x.a = c x.b → c j = c x.a) := fun hb j x hj hx hk he => by
                    rcases Nat.lt_or_ge j i with h5 | h5
                    · exact HPj.out hb j x h5 hx hk he
                    · rw [show j = i by omega, HAt.out] at hx
                      cases hx
                      exact absurd he hab
                  clear h3 hxk hka hkb hab
                  go_wp2_with (first
                    | (go_at_call 64; refine HP5.out.mono ?_; rintro e w5 ⟨rfl, rfl⟩)
                    | fail)
                  refine (HO1.out _ HYc.out).mono ?_; rintro _ Y1 ⟨rfl, hcy, hky⟩; have HY1c : Hid (CS Y1 bc ga ca nds.length c (rootsN nds.length c : Nat)) := hcy; have HY1b : Hid (Below w.heap.size w Y1) := below_kept2 HYb.out (kept1_2 hky) HG.out; have HY1x : Hid (Y1.heap[w.heap.size]? = some (.cells #[.pointer (some ⟨bp, 0, none⟩), .map (some bm)] 65 (0, 0))) := blk_kept2 HYx.out (kept1_2 hky) HXn.out; clear hcy hky m0 m1 m2 m3 m4 q0 q1 e0 e1 e2 e3 e4; go_wp2_with fail
                  go_roundg (nds.length - (i + 1))
                  case measure => have := HGk.out; have := HI.out; omega
                  case rel => exact ⟨i + 1, b, c, HI.out, rfl, by go_num, rfl, HY1c, HKn, HRn, HPj2, HY1b, HY1x⟩
            · have hii : nds.length = i := by omega
              subst hii; (have hge : ¬ (nds.length : Int) < (nds.length : Int) := by omega); clear hlt hi HGk; go_wp2_with fail
              go_roundg (if b = true then rootsN nds.length c + 1 else 0)
              case measure =>
                have h1 := HGk1.out; have h2 := HRn.out
                cases b
                · simp; omega
                · have := h2.2 rfl
                  simp; omega
              case rel => exact ⟨b, c, rfl, rfl, HCU, HKn, HPj, HBU, HXU⟩
end Go.Proofs.Ytealalhgkdlmkai
