/- Texts of one proof, one behind the other: MLM. -/
import Derived.Test.YtmahgfgndfcmpahB30
import Derived.Test.YtmahgfgndfcmpahB08
/- The law ModlogChain, walked. -/
namespace Go.Proofs.Ytmahgfgndfcmpah
open Go.RowKit Go.Sort

open Classical in
/-- Whether a formula is true at all worlds of all of a logic's models. -/
noncomputable def vB (f : Fm) (i : Nat) : Bool := decide (ValidM i f)
theorem vB_iff {f : Fm} {i : Nat} : vB f i = true ↔ ValidM i f := by simp [vB]
noncomputable def isA (f : Fm) (n : Nat) : Array Value := ((List.range 9).map fun i => Value.bool (decide (1 ≤ i ∧ i < n) && vB f i)).toArray
theorem isA_get {f : Fm} {n i : Nat} (h : i < 9) : (isA f n)[i]? = some (.bool (decide (1 ≤ i ∧ i < n) && vB f i)) := by simp [isA, h]
theorem isA_one (f : Fm) : isA f 1 = #[.bool false, .bool false, .bool false, .bool false, .bool false, .bool false, .bool false, .bool false, .bool false] := by
  simp [isA, List.range, List.range.loop]
theorem isA_set {f : Fm} {n : Nat} (h1 : 1 ≤ n) (_h8 : n ≤ 8) : (isA f n).setIfInBounds n (.bool (vB f n)) = isA f (n + 1) := by
  apply Array.ext_getElem?; intro j; by_cases hj : j < 9
  · rw [isA_get hj]
    by_cases e : n = j
    · subst e
      (rw [Array.getElem?_setIfInBounds_self_of_lt (by simp [isA]; omega)]); (have : decide (1 ≤ n ∧ n < n + 1) = true := by simp; omega); rw [this, Bool.true_and]
    · rw [Array.getElem?_setIfInBounds_ne e, isA_get hj]
      (have : (1 ≤ j ∧ j < n + 1) ↔ (1 ≤ j ∧ j < n) := by omega); simp only [this]
  · rw [Array.getElem?_eq_none (by simp [isA]; omega), Array.getElem?_eq_none (by simp [isA]; omega)]
/-- Fewer models. -/
theorem chain_sub {a b : Nat} (h : (a = 1 ∧ b = 2) ∨ (a = 1 ∧ b = 4) ∨ (a = 2 ∧ b = 3) ∨ (a = 3 ∧ b = 5) ∨ (a = 4 ∧ b = 5) ∨ (a = 5 ∧ b = 6) ∨ (a = 3 ∧ b = 7) ∨ (a = 7 ∧ b = 6) ∨ (a = 4 ∧ b = 8)) {N : Nat} {R : Nat → Nat → Bool} (ho : ofB b N R = true) : ofB a N R = true := by
  rcases h with ⟨rfl, rfl⟩ | ⟨rfl, rfl⟩ | ⟨rfl, rfl⟩ | ⟨rfl, rfl⟩ | ⟨rfl, rfl⟩ | ⟨rfl, rfl⟩ | ⟨rfl, rfl⟩ | ⟨rfl, rfl⟩ | ⟨rfl, rfl⟩
  · rfl
  · rfl
  · exact sh4_iff.2 fun u hu => ⟨u, hu, sh0_iff.1 ho u hu⟩
  · exact its_sh0 ho rfl
  · have ho : (sh0 N R && sh1 N R) = true := ho
    rw [Bool.and_eq_true] at ho; exact ho.2
  · have ho : ((sh0 N R && sh1 N R) && sh2 N R) = true := ho
    rw [Bool.and_eq_true] at ho; exact ho.1
  · exact its_sh0 ho rfl
  · have ho : ((sh0 N R && sh1 N R) && sh2 N R) = true := ho
    rw [Bool.and_eq_true, Bool.and_eq_true] at ho; show (sh0 N R && sh2 N R) = true; rw [ho.1.1, ho.2]; rfl
  · exact (sh5_iff.1 ho).1
theorem chain_vB {f : Fm} {a b : Nat} (h : (a = 1 ∧ b = 2) ∨ (a = 1 ∧ b = 4) ∨ (a = 2 ∧ b = 3) ∨ (a = 3 ∧ b = 5) ∨ (a = 4 ∧ b = 5) ∨ (a = 5 ∧ b = 6) ∨ (a = 3 ∧ b = 7) ∨ (a = 7 ∧ b = 6) ∨ (a = 4 ∧ b = 8)) (hv : vB f a = true) : vB f b = true :=
  vB_iff.2 fun N R p ho u hu => vB_iff.1 hv N R p (chain_sub h ho) u hu
set_option maxRecDepth 10000 in
set_option maxHeartbeats 8000000 in
theorem chain_law (f : Fm) (v : Value) (w : World) (hv : Rep w (fun _ => True) f v) :
    Calls Try.prog 4 #[v] w fun e w' => e = .returned (.bool true) ∧ Below w.heap.size w w' := by
  (have HBe : Hid (∀ W, Calls Try.prog 5 #[] W _) := fun W => modlogBegun_any W); (have HVf : Hid (∀ v W, Rep W (fun _ => True) f v → Calls Try.prog 6 #[v, .int .i64 0] W _) := fun v W h => vast2_any f v W h)
  have HDe : Hid (∀ (k : Nat) (v : Value) (W : World), Rep W (fun _ => True) f v → Calls Try.prog 7 #[.int .i64 (k : Nat), v] W fun e w' => (∃ (b : Bool) (n : Int) (a1 : Option Addr) (n1 c1 : Nat) (a2 : Option Addr) (n2 c2 : Nat) (c d : Int), e = .returned (.tuple #[.bool b, .agg #[.int .i64 n, .slice a1 n1 c1, .slice a2 n2 c2], .agg #[.int .i64 c, .int .i64 d]]) ∧ (c = 0 → b = vB f k)) ∧ Below W.heap.size W w') := fun k v W h => (decide_any (k : Int) f v W h).mono fun e w' ⟨⟨b, m, c, d, he, ⟨n, a1, n1, c1, a2, n2, c2, hm⟩, h1, _⟩, hb⟩ => ⟨⟨b, n, a1, n1, c1, a2, n2, c2, c, d, by rw [he, hm], fun hc => by
    have h9 := (h1 hc).2.2.2; rw [Int.toNat_natCast] at h9
    rw [Bool.eq_iff_iff, h9, vB_iff]⟩, hb⟩
  (have HRf : Hid (Rep w (fun _ => True) f v) := hv); obtain ⟨kd, nm, ks⟩ := f; obtain ⟨sl, cap0, rfl⟩ := slice_shape hv; clear hv; obtain ⟨X, hX⟩ : ∃ X, X = w.alloc (.cells #[.int .i64 kd, .string nm, .slice sl ks.length cap0] 24 (0, 0)) := ⟨_, rfl⟩; (have HBX : Hid (Below w.heap.size w X) := by rw [hX]; exact below_more (Below.refl _ _) _); (have HXf : Hid (X.heap[w.heap.size]? = some (.cells #[.int .i64 kd, .string nm, .slice sl ks.length cap0] 24 (0, 0))) := by rw [hX]; exact blk_new _ _)
  go_enter Try.func4, Try.ntmps4
  go_wp2_with fail; rw [← hX]; clear hX; refine (HBe.out _).mono ?_; rintro _ w1 ⟨rfl, hb1⟩; have HB1 : Hid (Below w.heap.size w w1) := below_join HBX.out hb1; have H1f : Hid (w1.heap[w.heap.size]? = some (.cells #[.int .i64 kd, .string nm, .slice sl ks.length cap0] 24 (0, 0))) := below_keep hb1 HXf.out; obtain ⟨f0, f1, f2, -⟩ := blk3 H1f.out; clear hb1 HBe HBX HXf; go_wp2_with fail; refine (HVf.out _ _ (HRf.out.up HB1.out)).mono ?_; rintro _ w2 ⟨⟨bb, rfl, -⟩, hb2⟩; have HB2 : Hid (Below w.heap.size w w2) := below_join HB1.out hb2; have H2f : Hid (w2.heap[w.heap.size]? = some (.cells #[.int .i64 kd, .string nm, .slice sl ks.length cap0] 24 (0, 0))) := below_keep hb2 H1f.out; clear hb2 HVf f0 f1 f2
  cases bb
  case true =>
    go_wp2_with fail; go_ret; exact ⟨rfl, HB2.out⟩
  obtain ⟨Y, hY⟩ : ∃ X, X = w2.alloc (.cells #[.bool false, .bool false, .bool false, .bool false, .bool false, .bool false, .bool false, .bool false, .bool false] 41 (0, 0)) := ⟨_, rfl⟩; (have hbY : Below w2.heap.size w2 Y := by rw [hY]; exact below_more (Below.refl _ _) _); have HBY : Hid (Below w.heap.size w Y) := below_join HB2.out hbY; have HYf : Hid (Y.heap[w.heap.size]? = some (.cells #[.int .i64 kd, .string nm, .slice sl ks.length cap0] 24 (0, 0))) := below_keep hbY H2f.out; (have HYi : Hid (Y.heap[w2.heap.size]? = some (.cells (isA (.mk kd nm ks) 1) 41 (0, 0))) := by rw [hY, isA_one]; exact blk_new _ _); have HSz : Hid (w.heap.size < w2.heap.size) := lt_of_block H2f.out; clear hbY; go_wp2_with fail; rw [← hY]; clear hY
  go_loopg [4] 8 (fun gg cc wr => ∃ n, 1 ≤ n ∧ n ≤ 9 ∧ gg = 9 - n ∧ cc = .int .i64 (n : Nat) ∧ Hid (wr.heap[w.heap.size]? = some (.cells #[.int .i64 kd, .string nm, .slice sl ks.length cap0] 24 (0, 0))) ∧ Hid (wr.heap[w2.heap.size]? = some (.cells (isA (.mk kd nm ks) n) 41 (0, 0))) ∧ Hid (Below w.heap.size w wr))
  case atStart => exact ⟨1, by omega, by omega, rfl, rfl, HYf, HYi, HBY⟩
  case round =>
    obtain ⟨n, hn1, hn9, hg, rfl, HF, HI, HB⟩ := hrel; have HGk : Hid (gk = 9 - n) := hg; clear hg; by_cases hn8 : n ≤ 8
    · have hn8I : (n : Int) ≤ 8 := by omega
      have HN : Hid (1 ≤ n ∧ n ≤ 8) := ⟨hn1, hn8⟩; obtain ⟨f0, f1, f2, -⟩ := blk3 HF.out; clear hn1 hn9 hn8; go_wp2_with fail; refine (HDe.out n _ wr (HRf.out.up HB.out)).mono ?_; rintro _ w3 ⟨⟨b, n0, a1, n1, c1, a2, n2, c2, c, d, rfl, hcb⟩, hb3⟩; have HCb : Hid (c = 0 → b = vB (.mk kd nm ks) n) := hcb; obtain ⟨Z, hZ⟩ : ∃ X, X = (w3.alloc (.cells #[.int .i64 n0, .slice a1 n1 c1, .slice a2 n2 c2] 30 (0, 0))).alloc (.cells #[.int .i64 c, .int .i64 d] 32 (0, 0)) := ⟨_, rfl⟩; (have hbZ : Below wr.heap.size wr Z := by rw [hZ]; exact below_more (below_more hb3 _) _); have HBZ : Hid (Below w.heap.size w Z) := below_join HB.out hbZ; have HZf : Hid (Z.heap[w.heap.size]? = some (.cells #[.int .i64 kd, .string nm, .slice sl ks.length cap0] 24 (0, 0))) := below_keep hbZ HF.out; have HZi : Hid (Z.heap[w2.heap.size]? = some (.cells (isA (.mk kd nm ks) n) 41 (0, 0))) := below_keep hbZ HI.out; (obtain ⟨e0, e1, -⟩ := blk2 (show Z.heap[w3.heap.size + 1]? = some (.cells #[.int .i64 c, .int .i64 d] 32 (0, 0)) by rw [hZ]; exact blk_secE _ _ _)); have hZe := hZ.symm; clear hcb hb3 hbZ hZ f0 f1 f2; by_cases hc : c = 0
      case neg =>
        (have hcn : (c != 0) = true := by simpa using hc); go_wp2_with fail; go_ret; exact ⟨rfl, HBZ.out⟩
      subst hc; (have i0 := (blk_cell HZi.out n).trans (isA_get (by have := HN.out; omega))); have i1 := blk_fz HZi.out n; obtain ⟨U, hU⟩ : ∃ U, U = Z.setCell ⟨w2.heap.size, n, none⟩ (.bool b) := ⟨_, rfl⟩
      have HUi : Hid (U.heap[w2.heap.size]? = some (.cells (isA (.mk kd nm ks) (n + 1)) 41 (0, 0))) := by
        rw [hU, ← isA_set HN.out.1 HN.out.2, ← HCb.out rfl]; exact set_cellE HZi.out _
      (have HUf : Hid (U.heap[w.heap.size]? = some (.cells #[.int .i64 kd, .string nm, .slice sl ks.length cap0] 24 (0, 0))) := by show _ = _; rw [hU, farM (by have := HSz.out; omega)]; exact HZf.out); (have HUB : Hid (Below w.heap.size w U) := by rw [hU]; exact HBZ.out.setCell (p := ⟨w2.heap.size, n, none⟩) (by have := HSz.out; show w.heap.size ≤ w2.heap.size; omega) _); have hUe := hU.symm; clear hU; go_wp2_with fail
      go_roundg (9 - (n + 1))
      case measure => have := HGk.out; have := HN.out; omega
      case rel => exact ⟨n + 1, by omega, by have := HN.out; omega, rfl, by go_num, HUf, HUi, HUB⟩
    (have hn : n = 9 := by omega); subst hn; clear hn1 hn9 hn8 HGk; obtain ⟨Z, hZ⟩ : ∃ X, X = wr.alloc (.cells #[.int .i64 1, .int .i64 2, .int .i64 1, .int .i64 4, .int .i64 2, .int .i64 3, .int .i64 3, .int .i64 5, .int .i64 4, .int .i64 5, .int .i64 5, .int .i64 6, .int .i64 3, .int .i64 7, .int .i64 7, .int .i64 6, .int .i64 4, .int .i64 8] 42 (0, 0)) := ⟨_, rfl⟩; (have hbZ : Below wr.heap.size wr Z := by rw [hZ]; exact below_more (Below.refl _ _) _); have HBZ : Hid (Below w.heap.size w Z) := below_join HB.out hbZ; have HZi : Hid (Z.heap[w2.heap.size]? = some (.cells (isA (.mk kd nm ks) 9) 41 (0, 0))) := below_keep hbZ HI.out; (have HZl : Hid (Z.heap[wr.heap.size]? = some (.cells #[.int .i64 1, .int .i64 2, .int .i64 1, .int .i64 4, .int .i64 2, .int .i64 3, .int .i64 3, .int .i64 5, .int .i64 4, .int .i64 5, .int .i64 5, .int .i64 6, .int .i64 3, .int .i64 7, .int .i64 7, .int .i64 6, .int .i64 4, .int .i64 8] 42 (0, 0))) := by rw [hZ]; exact blk_new _ _); obtain ⟨bl, hbl⟩ : ∃ b, b = wr.heap.size := ⟨_, rfl⟩; rw [← hbl] at HZl; clear hbZ; go_wp2_with fail; rw [← hZ, ← hbl]; clear hZ hbl
    go_loopg [9] 9 (fun gg cc wr => ∃ n, n ≤ 9 ∧ gg = 9 - n ∧ cc = .int .i64 (n : Nat) ∧ Hid (Below Z.heap.size Z wr))
    case atStart => exact ⟨0, by omega, rfl, rfl, Below.refl _ _⟩
    case round =>
      obtain ⟨n, hn9, hg, rfl, HBr⟩ := hrel; have HGk : Hid (gk = 9 - n) := hg; have HLr : Hid (wr.heap[bl]? = some (.cells #[.int .i64 1, .int .i64 2, .int .i64 1, .int .i64 4, .int .i64 2, .int .i64 3, .int .i64 3, .int .i64 5, .int .i64 4, .int .i64 5, .int .i64 5, .int .i64 6, .int .i64 3, .int .i64 7, .int .i64 7, .int .i64 6, .int .i64 4, .int .i64 8] 42 (0, 0))) := below_keep HBr.out HZl.out; have HIr : Hid (wr.heap[w2.heap.size]? = some (.cells (isA (.mk kd nm ks) 9) 41 (0, 0))) := below_keep HBr.out HZi.out; clear hg; (have hcase : n = 9 ∨ n = 0 ∨ n = 1 ∨ n = 2 ∨ n = 3 ∨ n = 4 ∨ n = 5 ∨ n = 6 ∨ n = 7 ∨ n = 8 := by omega)
      rcases hcase with rfl | rfl | rfl | rfl | rfl | rfl | rfl | rfl | rfl | rfl
      · go_wp2_with fail
        go_ret; exact ⟨rfl, below_join HBZ.out HBr.out⟩
      · have l0 : wr.cell? ⟨bl, 0, none⟩ = some (.int .i64 1) := blk_cell HLr.out 0
        have l1 : wr.cell? ⟨bl, 1, none⟩ = some (.int .i64 2) := blk_cell HLr.out 1; (have i0 := (blk_cell HIr.out 1).trans (isA_get (by decide))); (have i1 := (blk_cell HIr.out 2).trans (isA_get (by decide))); (have HCh : Hid (vB (.mk kd nm ks) 1 = true → vB (.mk kd nm ks) 2 = true) := fun h => chain_vB (by decide) h); (rw [show decide (1 ≤ 1 ∧ 1 < 9) = true by decide, Bool.true_and] at i0); (rw [show decide (1 ≤ 2 ∧ 2 < 9) = true by decide, Bool.true_and] at i1); generalize vB (.mk kd nm ks) 1 = va at *; generalize vB (.mk kd nm ks) 2 = vb at *
        cases va
        · go_wp2_with fail
          go_roundg (9 - 1)
          case measure => have := HGk.out; omega
          case rel => exact ⟨1, by omega, rfl, by go_num, HBr⟩
        · obtain rfl : vb = true := HCh.out rfl
          go_wp2_with fail
          go_roundg (9 - 1)
          case measure => have := HGk.out; omega
          case rel => exact ⟨1, by omega, rfl, by go_num, HBr⟩
      · have l0 : wr.cell? ⟨bl, 2, none⟩ = some (.int .i64 1) := blk_cell HLr.out 2
        have l1 : wr.cell? ⟨bl, 3, none⟩ = some (.int .i64 4) := blk_cell HLr.out 3; (have i0 := (blk_cell HIr.out 1).trans (isA_get (by decide))); (have i1 := (blk_cell HIr.out 4).trans (isA_get (by decide))); (have HCh : Hid (vB (.mk kd nm ks) 1 = true → vB (.mk kd nm ks) 4 = true) := fun h => chain_vB (by decide) h); (rw [show decide (1 ≤ 1 ∧ 1 < 9) = true by decide, Bool.true_and] at i0); (rw [show decide (1 ≤ 4 ∧ 4 < 9) = true by decide, Bool.true_and] at i1); generalize vB (.mk kd nm ks) 1 = va at *; generalize vB (.mk kd nm ks) 4 = vb at *
        cases va
        · go_wp2_with fail
          go_roundg (9 - 2)
          case measure => have := HGk.out; omega
          case rel => exact ⟨2, by omega, rfl, by go_num, HBr⟩
        · obtain rfl : vb = true := HCh.out rfl
          go_wp2_with fail
          go_roundg (9 - 2)
          case measure => have := HGk.out; omega
          case rel => exact ⟨2, by omega, rfl, by go_num, HBr⟩
      · have l0 : wr.cell? ⟨bl, 4, none⟩ = some (.int .i64 2) := blk_cell HLr.out 4
        have l1 : wr.cell? ⟨bl, 5, none⟩ = some (.int .i64 3) := blk_cell HLr.out 5; (have i0 := (blk_cell HIr.out 2).trans (isA_get (by decide))); (have i1 := (blk_cell HIr.out 3).trans (isA_get (by decide))); (have HCh : Hid (vB (.mk kd nm ks) 2 = true → vB (.mk kd nm ks) 3 = true) := fun h => chain_vB (by decide) h); (rw [show decide (1 ≤ 2 ∧ 2 < 9) = true by decide, Bool.true_and] at i0); (rw [show decide (1 ≤ 3 ∧ 3 < 9) = true by decide, Bool.true_and] at i1); generalize vB (.mk kd nm ks) 2 = va at *; generalize vB (.mk kd nm ks) 3 = vb at *
        cases va
        · go_wp2_with fail
          go_roundg (9 - 3)
          case measure => have := HGk.out; omega
          case rel => exact ⟨3, by omega, rfl, by go_num, HBr⟩
        · obtain rfl : vb = true := HCh.out rfl
          go_wp2_with fail
          go_roundg (9 - 3)
          case measure => have := HGk.out; omega
          case rel => exact ⟨3, by omega, rfl, by go_num, HBr⟩
      · have l0 : wr.cell? ⟨bl, 6, none⟩ = some (.int .i64 3) := blk_cell HLr.out 6
        have l1 : wr.cell? ⟨bl, 7, none⟩ = some (.int .i64 5) := blk_cell HLr.out 7; (have i0 := (blk_cell HIr.out 3).trans (isA_get (by decide))); (have i1 := (blk_cell HIr.out 5).trans (isA_get (by decide))); (have HCh : Hid (vB (.mk kd nm ks) 3 = true → vB (.mk kd nm ks) 5 = true) := fun h => chain_vB (by decide) h); (rw [show decide (1 ≤ 3 ∧ 3 < 9) = true by decide, Bool.true_and] at i0); (rw [show decide (1 ≤ 5 ∧ 5 < 9) = true by decide, Bool.true_and] at i1); generalize vB (.mk kd nm ks) 3 = va at *; generalize vB (.mk kd nm ks) 5 = vb at *
        cases va
        · go_wp2_with fail
          go_roundg (9 - 4)
          case measure => have := HGk.out; omega
          case rel => exact ⟨4, by omega, rfl, by go_num, HBr⟩
        · obtain rfl : vb = true := HCh.out rfl
          go_wp2_with fail
          go_roundg (9 - 4)
          case measure => have := HGk.out; omega
          case rel => exact ⟨4, by omega, rfl, by go_num, HBr⟩
      · have l0 : wr.cell? ⟨bl, 8, none⟩ = some (.int .i64 4) := blk_cell HLr.out 8
        have l1 : wr.cell? ⟨bl, 9, none⟩ = some (.int .i64 5) := blk_cell HLr.out 9; (have i0 := (blk_cell HIr.out 4).trans (isA_get (by decide))); (have i1 := (blk_cell HIr.out 5).trans (isA_get (by decide))); (have HCh : Hid (vB (.mk kd nm ks) 4 = true → vB (.mk kd nm ks) 5 = true) := fun h => chain_vB (by decide) h); (rw [show decide (1 ≤ 4 ∧ 4 < 9) = true by decide, Bool.true_and] at i0); (rw [show decide (1 ≤ 5 ∧ 5 < 9) = true by decide, Bool.true_and] at i1); generalize vB (.mk kd nm ks) 4 = va at *; generalize vB (.mk kd nm ks) 5 = vb at *
        cases va
        · go_wp2_with fail
          go_roundg (9 - 5)
          case measure => have := HGk.out; omega
          case rel => exact ⟨5, by omega, rfl, by go_num, HBr⟩
        · obtain rfl : vb = true := HCh.out rfl
          go_wp2_with fail
          go_roundg (9 - 5)
          case measure => have := HGk.out; omega
          case rel => exact ⟨5, by omega, rfl, by go_num, HBr⟩
      · have l0 : wr.cell? ⟨bl, 10, none⟩ = some (.int .i64 5) := blk_cell HLr.out 10
        have l1 : wr.cell? ⟨bl, 11, none⟩ = some (.int .i64 6) := blk_cell HLr.out 11; (have i0 := (blk_cell HIr.out 5).trans (isA_get (by decide))); (have i1 := (blk_cell HIr.out 6).trans (isA_get (by decide))); (have HCh : Hid (vB (.mk kd nm ks) 5 = true → vB (.mk kd nm ks) 6 = true) := fun h => chain_vB (by decide) h); (rw [show decide (1 ≤ 5 ∧ 5 < 9) = true by decide, Bool.true_and] at i0); (rw [show decide (1 ≤ 6 ∧ 6 < 9) = true by decide, Bool.true_and] at i1); generalize vB (.mk kd nm ks) 5 = va at *; generalize vB (.mk kd nm ks) 6 = vb at *
        cases va
        · go_wp2_with fail
          go_roundg (9 - 6)
          case measure => have := HGk.out; omega
          case rel => exact ⟨6, by omega, rfl, by go_num, HBr⟩
        · obtain rfl : vb = true := HCh.out rfl
          go_wp2_with fail
          go_roundg (9 - 6)
          case measure => have := HGk.out; omega
          case rel => exact ⟨6, by omega, rfl, by go_num, HBr⟩
      · have l0 : wr.cell? ⟨bl, 12, none⟩ = some (.int .i64 3) := blk_cell HLr.out 12
        have l1 : wr.cell? ⟨bl, 13, none⟩ = some (.int .i64 7) := blk_cell HLr.out 13; (have i0 := (blk_cell HIr.out 3).trans (isA_get (by decide))); (have i1 := (blk_cell HIr.out 7).trans (isA_get (by decide))); (have HCh : Hid (vB (.mk kd nm ks) 3 = true → vB (.mk kd nm ks) 7 = true) := fun h => chain_vB (by decide) h); (rw [show decide (1 ≤ 3 ∧ 3 < 9) = true by decide, Bool.true_and] at i0); (rw [show decide (1 ≤ 7 ∧ 7 < 9) = true by decide, Bool.true_and] at i1); generalize vB (.mk kd nm ks) 3 = va at *; generalize vB (.mk kd nm ks) 7 = vb at *
        cases va
        · go_wp2_with fail
          go_roundg (9 - 7)
          case measure => have := HGk.out; omega
          case rel => exact ⟨7, by omega, rfl, by go_num, HBr⟩
        · obtain rfl : vb = true := HCh.out rfl
          go_wp2_with fail
          go_roundg (9 - 7)
          case measure => have := HGk.out; omega
          case rel => exact ⟨7, by omega, rfl, by go_num, HBr⟩
      · have l0 : wr.cell? ⟨bl, 14, none⟩ = some (.int .i64 7) := blk_cell HLr.out 14
        have l1 : wr.cell? ⟨bl, 15, none⟩ = some (.int .i64 6) := blk_cell HLr.out 15; (have i0 := (blk_cell HIr.out 7).trans (isA_get (by decide))); (have i1 := (blk_cell HIr.out 6).trans (isA_get (by decide))); (have HCh : Hid (vB (.mk kd nm ks) 7 = true → vB (.mk kd nm ks) 6 = true) := fun h => chain_vB (by decide) h); (rw [show decide (1 ≤ 7 ∧ 7 < 9) = true by decide, Bool.true_and] at i0); (rw [show decide (1 ≤ 6 ∧ 6 < 9) = true by decide, Bool.true_and] at i1); generalize vB (.mk kd nm ks) 7 = va at *; generalize vB (.mk kd nm ks) 6 = vb at *
        cases va
        · go_wp2_with fail
          go_roundg (9 - 8)
          case measure => have := HGk.out; omega
          case rel => exact ⟨8, by omega, rfl, by go_num, HBr⟩
        · obtain rfl : vb = true := HCh.out rfl
          go_wp2_with fail
          go_roundg (9 - 8)
          case measure => have := HGk.out; omega
          case rel => exact ⟨8, by omega, rfl, by go_num, HBr⟩
      · have l0 : wr.cell? ⟨bl, 16, none⟩ = some (.int .i64 4) := blk_cell HLr.out 16
        have l1 : wr.cell? ⟨bl, 17, none⟩ = some (.int .i64 8) := blk_cell HLr.out 17; (have i0 := (blk_cell HIr.out 4).trans (isA_get (by decide))); (have i1 := (blk_cell HIr.out 8).trans (isA_get (by decide))); (have HCh : Hid (vB (.mk kd nm ks) 4 = true → vB (.mk kd nm ks) 8 = true) := fun h => chain_vB (by decide) h); (rw [show decide (1 ≤ 4 ∧ 4 < 9) = true by decide, Bool.true_and] at i0); (rw [show decide (1 ≤ 8 ∧ 8 < 9) = true by decide, Bool.true_and] at i1); generalize vB (.mk kd nm ks) 4 = va at *; generalize vB (.mk kd nm ks) 8 = vb at *
        cases va
        · go_wp2_with fail
          go_roundg (9 - 9)
          case measure => have := HGk.out; omega
          case rel => exact ⟨9, by omega, rfl, by go_num, HBr⟩
        · obtain rfl : vb = true := HCh.out rfl
          go_wp2_with fail
          go_roundg (9 - 9)
          case measure => have := HGk.out; omega
          case rel => exact ⟨9, by omega, rfl, by go_num, HBr⟩
end Go.Proofs.Ytmahgfgndfcmpah
