/- Texts of one proof, one behind the other: MA7. -/
import Derived.Test.YtmahgfgndfcmpagB20
import Derived.Test.YtmahgfgndfcmpagB21
import Derived.Test.YtmahgfgndfcmpagB14
import Derived.Test.YtmahgfgndfcmpagB04
import Derived.Test.YtmahgfgndfcmpagB10
import Derived.Test.YtmahgfgndfcmpagB12
/- The law ModalEvals, walked. -/
namespace Go.Proofs.Ytmahgfgndfcmpag
open Go.RowKit Go.Sort

theorem bool_eqIn (d : Nat) (x y : Bool) (w : World) : (Op.equalIn (d + 1) 4 (.bool x) (.bool y)).run Try.prog w = .ok (x == y) w := by
  simp [Op.equalIn, go_sem]
set_option maxRecDepth 100000 in
theorem six_eq (a b c d e f : Bool) (w : World) : (Op.equal 39 (.agg #[.bool a, .bool b, .bool c, .bool d, .bool e, .bool f]) (.agg #[.bool a, .bool b, .bool c, .bool d, .bool e, .bool f])).run Try.prog w = .ok true w := by
  (obtain ⟨i, hi⟩ := Option.isSome_iff_exists.1 (show (Try.prog.info? 4).isSome = true by kernel_rfl)); (have hc : Try.prog.cellsOf 4 = 1 := by kernel_rfl); have h9 := run_equalIn_array (P := Try.prog) w 9999 #[.bool a, .bool b, .bool c, .bool d, .bool e, .bool f] #[.bool a, .bool b, .bool c, .bool d, .bool e, .bool f] Try.underlying39 hi; rw [hc] at h9; refine h9.trans ?_; clear h9; obtain ⟨d, hd⟩ : ∃ d, d + 1 = 9999 := ⟨9998, rfl⟩; rw [← hd]; clear hd; simp [Op.eqItems, go_sem, List.range, List.range.loop, part, bool_eqIn]
theorem six_guard (p q : Operand) (xs ys : Array Value) (w : World) : (eqGuard .neq 39 p q (.agg xs) (.agg ys)).run Try.prog w = .ok () w := by
  (have : Try.prog.eqGuardType Try.prog.depth 39 = false := by kernel_rfl); simp [eqGuard, go_sem, this]
theorem six_neq (a b c d e f : Bool) (w : World) : (binOp .neq 39 (.agg #[.bool a, .bool b, .bool c, .bool d, .bool e, .bool f]) (.agg #[.bool a, .bool b, .bool c, .bool d, .bool e, .bool f])).run Try.prog w = .ok (.bool false) w := by
  simp [binOp, six_eq]
def kFl (f : Fm) : Value → World → Prop := fun v w => FL w v [f]
theorem kFl_stays (f : Fm) : Stays (kFl f) := fun _ _ _ h hb => FL.up h hb
def kTl (l : List (List UInt8)) : Value → World → Prop := fun v w => TL w v l
theorem kTl_stays (l : List (List UInt8)) : Stays (kTl l) := fun _ _ _ h hb => TL.up h hb
theorem BL.outC {w : World} {g N : Nat} {T : Nat → Bool} (h : w.heap[g]? = some (.cells (outC N N T) 4 (0, 0))) (hN : N ≤ 40) : BL w (.slice (some ⟨g, 0, none⟩) N N) ((List.range N).map T) := by
  (refine ⟨some ⟨g, 0, none⟩, N, by simp, by simp, by unfold maxLen; omega, fun _ => ⟨g, 0, rfl, fun j b hj => ?_⟩⟩)
  have hjN : j < N := by
    have := (List.getElem?_eq_some_iff.1 hj).1; simpa using this
  have e : b = T j := by
    rw [List.getElem?_map, List.getElem?_range hjN] at hj; simpa using hj.symm
  rw [e, Nat.zero_add]; exact (blk_cell h j).trans (outC_full hjN)
theorem blk6M {w : World} {b : Nat} {c0 c1 c2 c3 c4 c5 : Value} {T : TypeId} (h : w.heap[b]? = some (.cells #[c0, c1, c2, c3, c4, c5] T (0, 0))) : w.cell? ⟨b, 0, none⟩ = some c0 ∧ w.cell? ⟨b, 1, none⟩ = some c1 ∧ w.cell? ⟨b, 2, none⟩ = some c2 ∧ w.cell? ⟨b, 3, none⟩ = some c3 ∧ w.cell? ⟨b, 4, none⟩ = some c4 ∧ w.cell? ⟨b, 5, none⟩ = some c5 :=
  ⟨blk_cell h 0, blk_cell h 1, blk_cell h 2, blk_cell h 3, blk_cell h 4, blk_cell h 5⟩
theorem rowE30 (l : List Value) (h0 : l.length = 30) : ∃ x0 x1 x2 x3 x4 x5 x6 x7 x8 x9 x10 x11 x12 x13 x14 x15 x16 x17 x18 x19 x20 x21 x22 x23 x24 x25 x26 x27 x28 x29, l = [x0, x1, x2, x3, x4, x5, x6, x7, x8, x9, x10, x11, x12, x13, x14, x15, x16, x17, x18, x19, x20, x21, x22, x23, x24, x25, x26, x27, x28, x29] := by
  obtain ⟨x0, l1, e0, h1⟩ := cons_lenM h0; obtain ⟨x1, l2, e1, h2⟩ := cons_lenM h1; obtain ⟨x2, l3, e2, h3⟩ := cons_lenM h2; obtain ⟨x3, l4, e3, h4⟩ := cons_lenM h3; obtain ⟨x4, l5, e4, h5⟩ := cons_lenM h4; obtain ⟨x5, l6, e5, h6⟩ := cons_lenM h5; obtain ⟨x6, l7, e6, h7⟩ := cons_lenM h6; obtain ⟨x7, l8, e7, h8⟩ := cons_lenM h7; obtain ⟨x8, l9, e8, h9⟩ := cons_lenM h8; obtain ⟨x9, l10, e9, h10⟩ := cons_lenM h9; obtain ⟨x10, l11, e10, h11⟩ := cons_lenM h10; obtain ⟨x11, l12, e11, h12⟩ := cons_lenM h11; obtain ⟨x12, l13, e12, h13⟩ := cons_lenM h12; obtain ⟨x13, l14, e13, h14⟩ := cons_lenM h13; obtain ⟨x14, l15, e14, h15⟩ := cons_lenM h14; obtain ⟨x15, l16, e15, h16⟩ := cons_lenM h15; obtain ⟨x16, l17, e16, h17⟩ := cons_lenM h16; obtain ⟨x17, l18, e17, h18⟩ := cons_lenM h17; obtain ⟨x18, l19, e18, h19⟩ := cons_lenM h18; obtain ⟨x19, l20, e19, h20⟩ := cons_lenM h19; obtain ⟨x20, l21, e20, h21⟩ := cons_lenM h20; obtain ⟨x21, l22, e21, h22⟩ := cons_lenM h21; obtain ⟨x22, l23, e22, h23⟩ := cons_lenM h22; obtain ⟨x23, l24, e23, h24⟩ := cons_lenM h23; obtain ⟨x24, l25, e24, h25⟩ := cons_lenM h24; obtain ⟨x25, l26, e25, h26⟩ := cons_lenM h25; obtain ⟨x26, l27, e26, h27⟩ := cons_lenM h26; obtain ⟨x27, l28, e27, h28⟩ := cons_lenM h27; obtain ⟨x28, l29, e28, h29⟩ := cons_lenM h28; obtain ⟨x29, l30, e29, h30⟩ := cons_lenM h29; have e30 : l30 = [] := List.length_eq_zero_iff.1 h30; subst e30 e29 e28 e27 e26 e25 e24 e23 e22 e21 e20 e19 e18 e17 e16 e15 e14 e13 e12 e11 e10 e9 e8 e7 e6 e5 e4 e3 e2 e1 e0; exact ⟨x0, x1, x2, x3, x4, x5, x6, x7, x8, x9, x10, x11, x12, x13, x14, x15, x16, x17, x18, x19, x20, x21, x22, x23, x24, x25, x26, x27, x28, x29, rfl⟩
theorem rowE15 (l : List Value) (h0 : l.length = 15) : ∃ x0 x1 x2 x3 x4 x5 x6 x7 x8 x9 x10 x11 x12 x13 x14, l = [x0, x1, x2, x3, x4, x5, x6, x7, x8, x9, x10, x11, x12, x13, x14] := by
  obtain ⟨x0, l1, e0, h1⟩ := cons_lenM h0; obtain ⟨x1, l2, e1, h2⟩ := cons_lenM h1; obtain ⟨x2, l3, e2, h3⟩ := cons_lenM h2; obtain ⟨x3, l4, e3, h4⟩ := cons_lenM h3; obtain ⟨x4, l5, e4, h5⟩ := cons_lenM h4; obtain ⟨x5, l6, e5, h6⟩ := cons_lenM h5; obtain ⟨x6, l7, e6, h7⟩ := cons_lenM h6; obtain ⟨x7, l8, e7, h8⟩ := cons_lenM h7; obtain ⟨x8, l9, e8, h9⟩ := cons_lenM h8; obtain ⟨x9, l10, e9, h10⟩ := cons_lenM h9; obtain ⟨x10, l11, e10, h11⟩ := cons_lenM h10; obtain ⟨x11, l12, e11, h12⟩ := cons_lenM h11; obtain ⟨x12, l13, e12, h13⟩ := cons_lenM h12; obtain ⟨x13, l14, e13, h14⟩ := cons_lenM h13; obtain ⟨x14, l15, e14, h15⟩ := cons_lenM h14; have e15 : l15 = [] := List.length_eq_zero_iff.1 h15; subst e15 e14 e13 e12 e11 e10 e9 e8 e7 e6 e5 e4 e3 e2 e1 e0; exact ⟨x0, x1, x2, x3, x4, x5, x6, x7, x8, x9, x10, x11, x12, x13, x14, rfl⟩

set_option maxRecDepth 10000 in
set_option maxHeartbeats 16000000 in
theorem evals_law (m : Mdl) (hn1 : m.rel.length ≤ 8796093022208) (hn2 : m.tr.length ≤ 5864062014634) (hn3 : ∀ l ∈ m.tr, l.length ≤ 8796093022208) (f : Fm) (v u : Value) (w : World) (hm : MR w m v) (hv : Rep w (fun _ => True) f u) :
    Calls Try.prog 3 #[v, u] w fun e w' => e = .returned (.bool true) ∧ Below w.heap.size w w' := by
  (have HBe : Hid (∀ W, Calls Try.prog 8 #[] W _) := fun W => modalBegun_any W); (have HVf : Hid (∀ v W, Rep W (fun _ => True) f v → Calls Try.prog 9 #[v, .int .i64 0] W _) := fun v W h => vast2_any f v W h); (have HOw : Hid (∀ v W, MR W m v → Calls Try.prog 10 #[v] W _) := fun v W h => ownModel_any m hn1 hn2 hn3 v W h); (have HEv : Hid (∀ v u W, MR W m v → Rep W (fun _ => True) f u → Calls Try.prog 11 #[v, u] W _) := fun v u W h1 h2 => eval_any m f v u W h1 h2); (have HSh : Hid (∀ v W, MR W m v → Calls Try.prog 13 #[v] W _) := fun v W h => Shape_any m v W h); (have HMf : Hid (∀ v W, MR W m v → Calls Try.prog 14 #[v, .int .i64 40, .int .i64 2000] W _) := fun v W h => modelFault_any 40 2000 m (by omega) (by omega) v W h); (have HSm : Hid (∀ v u W, MR W m v → MR W m u → Calls Try.prog 15 #[v, u] W _) := fun v u W h1 h2 => sameModel_any m v u W h1 h2); (have HFf : Hid (∀ v W, Rep W (fun _ => True) f v → Calls Try.prog 17 #[v] W _) := fun v W h => rfault_any f v W h)
  obtain ⟨hb, c2, d2, HHo, HHs⟩ : ∃ (hb : Bool) (c2 d2 : Int), Hid (∀ v u W, MR W m v → Rep W (fun _ => True) f u → Calls Try.prog 12 #[v, u] W fun e w' => e = .returned (.tuple #[.bool hb, .agg #[.int .i64 c2, .int .i64 d2]]) ∧ Below W.heap.size W w') ∧ Hid (((mfcode m f).1 ≠ 0 → mfcode m f = (c2, d2) ∧ hb = false) ∧ ((mfcode m f).1 = 0 → (12 < m.n.toNat * (nmsU f).length → c2 = 2 ∧ d2 = 0 ∧ hb = false) ∧ (m.n.toNat * (nmsU f).length ≤ 12 → c2 = 0 ∧ d2 = 0 ∧ hb = holdsB m.n.toNat (seeR m.n.toNat (relB m.rel)) (nmsU f) f))) := by
    by_cases h0 : (mfcode m f).1 = 0
    · obtain ⟨h1, h2, h3, h4⟩ := mf_ok h0
      obtain ⟨N, hn, hN1, hN, hr, ht, hin⟩ := mdcode_in h2; obtain ⟨n, rel, tr⟩ := m; simp only at hn hr ht hin; subst hn; by_cases h12 : N * (nmsU f).length ≤ 12
      · refine ⟨holdsB N (seeR N (relB rel)) (nmsU f) f, 0, 0, fun v u W h5 h6 => (hold_ok N (by omega) rel (by omega) hin tr f h4 h3 h1 v u W h5 h6).mono ?_, fun h => absurd h0 h, fun _ => ⟨fun h => ?_, fun _ => ⟨rfl, rfl, rfl⟩⟩⟩
        · rintro e w' ⟨h7, -, h8⟩
          exact ⟨h7 h12, h8⟩
        · simp only [Int.toNat_natCast] at h
          omega
      · refine ⟨false, 2, 0, fun v u W h5 h6 => (hold_ok N (by omega) rel (by omega) hin tr f h4 h3 h1 v u W h5 h6).mono ?_, fun h => absurd h0 h, fun _ => ⟨fun _ => ⟨rfl, rfl, rfl⟩, fun h => ?_⟩⟩
        · rintro e w' ⟨-, h7, h8⟩
          (exact ⟨h7 (by omega), h8⟩)
        · simp only [Int.toNat_natCast] at h
          omega
    · exact ⟨false, (mfcode m f).1, (mfcode m f).2, fun v u W h1 h2 => hold_bad m f h0 v u W h1 h2, fun _ => ⟨rfl, rfl⟩, fun h => absurd h h0⟩
  have HSo : Hid ((mdcode 40 2000 m).1 = 0 → ∀ v W, MR W m v → Calls Try.prog 16 #[v] W fun e w' => e = .returned (.agg #[.bool (shV m 0), .bool (shV m 1), .bool (shV m 2), .bool (shV m 3), .bool (shV m 4), .bool (shV m 5)]) ∧ Below W.heap.size W w') := fun h2 v W hW => by
    (have e : shV m = fun k => shV m k := rfl); obtain ⟨N, hn, hN1, hN, hr, ht, hin⟩ := mdcode_in h2; unfold shV; rw [if_pos h2]; simp only; obtain ⟨n, rel, tr⟩ := m; simp only at hn hr ht hin; subst hn; (refine (shapeOf_any N (by omega) rel (by omega) hin tr v W hW (seeR N (relB rel)) (fun u => seeR_eq hin u)).mono ?_); rintro e w' ⟨rfl, h8⟩; refine ⟨?_, h8⟩; rw [a0_sh, a1_sh, a2_sh, a3_sh, a4_sh, a5_sh]; simp [h2]
  have HOk : Hid ((mfcode m f).1 = 0 → ∃ (N : Nat) (NL : List (List UInt8)), m.n = (N : Int) ∧ m.n.toNat * (nmsU f).length = N * NL.length ∧ N ≤ 40 ∧ NL.length ≤ 200 ∧ NL = nmsU f ∧
      (∀ v u W, MR W m v → Rep W (fun _ => True) f u → Calls Try.prog 19 #[v, u] W fun e w' => ∃ x, e = .returned x ∧ BL w' x (evL m f) ∧ Below W.heap.size W w') ∧
      (∀ v W, FL W v [f] → Calls Try.prog 20 #[v] W fun e w' => ∃ x, e = .returned x ∧ TL w' x NL ∧ Below W.heap.size W w') ∧
      (N * NL.length ≤ 8 → ∀ v u W, MR W m v → Rep W (fun _ => True) f u → Calls Try.prog 22 #[v, u] W fun e w' => e = .returned (.bool hb) ∧ Below W.heap.size W w')) := fun h0 => by
    obtain ⟨h1, h2, h3, h4⟩ := mf_ok h0; obtain ⟨cs, hcs⟩ := code_chk h3; (have hsz : f.size ≤ 200 := by have := chk_size hcs; omega); have hs2 := HHs.out.2 h0; obtain ⟨N, hn, hN1, hN, hr, ht, hin⟩ := mdcode_in h2; obtain ⟨n, rel, tr⟩ := m; simp only at hn hr ht hin; subst hn; (refine ⟨N, nmsU f, rfl, rfl, by omega, ?_, rfl, fun v u W h5 h6 => ?_, fun v W h5 => namesIn_any f hsz v W h5, fun h8 v u W h5 h6 => ?_⟩)
    · exact nmsU_200 hcs
    · refine (allAt_any N hN1 (by omega) rel (by omega) hin tr ht f v u W h4 h5 h6).mono ?_
      rintro e w' ⟨g, rfl, -, hg, hb⟩; (exact ⟨_, rfl, BL.outC hg (by omega), hb⟩)
    · have e : hb = everB N (seeR N (relB rel)) (nmsU f) f := by
        (rw [ever_eq (nmsU_nodup f) (fun t ht => (nmsU_mem f t).2 ht)]); (exact (hs2.2 (by simp only [Int.toNat_natCast]; omega)).2.2)
      rw [e]; (exact everywhere_any N hN1 (by omega) rel (by omega) hin tr f h4 hsz h8 v u W h5 h6)
  (have HCz : Hid ((mdcode 40 2000 m).1 = 0 → (mdcode 40 2000 m).2 = 0) := fun h => by rw [mdcode_two h]); (have HMd : Hid ((mdcode 40 2000 m).1 = 0 → mfcode m f = f.code) := fun h => by unfold mfcode; rw [if_pos h]); (have HMn : Hid ((mdcode 40 2000 m).1 ≠ 0 → mfcode m f = mdcode 40 2000 m ∧ ∀ k, shV m k = false) := fun h => ⟨by unfold mfcode; rw [if_neg h], fun k => by unfold shV; rw [if_neg h]⟩); (have HF0 : Hid (f.code.1 = 0 → (mdcode 40 2000 m).1 = 0 → f.code = (0, 0)) := fun h h2 => (mf_ok (m := m) (by rw [HMd.out h2]; exact h)).2.2.1); have HRm : Hid (MR w m v) := hm; (have HRf : Hid (Rep w (fun _ => True) f u) := hv); (have HBi : Hid (∀ v u W, BL W v (evL m f) → BL W u (evL m f) → Calls Try.prog 18 #[v, u] W _) := fun v u W h1 h2 => bits_same (evL m f) v u W h1 h2); (obtain ⟨L1, hL1⟩ : ∃ L1, L1 = (if (mfcode m f).1 = 0 then evL m f else []) := ⟨_, rfl⟩); (have HL0 : Hid ((mfcode m f).1 ≠ 0 → L1 = []) := fun h => by rw [hL1, if_neg h]); (have HL9 : Hid ((mfcode m f).1 = 0 → L1 = evL m f) := fun h => by rw [hL1, if_pos h]); rw [← hL1] at HEv; clear hL1 hn1 hn2 hn3; generalize evL m f = LE at *; generalize mfcode m f = mf at *; generalize mdcode 40 2000 m = md at *; generalize f.code = fc at *; obtain ⟨c1, d1⟩ := mf; obtain ⟨c, d⟩ := md; obtain ⟨fc, fd⟩ := fc; obtain ⟨s0, hs0⟩ : ∃ s, s = shV m 0 := ⟨_, rfl⟩; obtain ⟨s1, hs1⟩ : ∃ s, s = shV m 1 := ⟨_, rfl⟩; obtain ⟨s2, hs2⟩ : ∃ s, s = shV m 2 := ⟨_, rfl⟩; obtain ⟨s3, hs3⟩ : ∃ s, s = shV m 3 := ⟨_, rfl⟩; obtain ⟨s4, hs4⟩ : ∃ s, s = shV m 4 := ⟨_, rfl⟩; obtain ⟨s5, hs5⟩ : ∃ s, s = shV m 5 := ⟨_, rfl⟩; rw [← hs0, ← hs1, ← hs2, ← hs3, ← hs4, ← hs5] at HSh HSo
  have HSf : Hid (c ≠ 0 → s0 = false ∧ s1 = false ∧ s2 = false ∧ s3 = false ∧ s4 = false ∧ s5 = false) := fun h => by
    have := (HMn.out h).2; exact ⟨hs0.trans (this _), hs1.trans (this _), hs2.trans (this _), hs3.trans (this _), hs4.trans (this _), hs5.trans (this _)⟩
  (have HMn : Hid (c ≠ 0 → ((c1, d1) : Int × Int) = (c, d)) := fun h => (HMn.out h).1); clear hs0 hs1 hs2 hs3 hs4 hs5; obtain ⟨ra, rc, ta, tc, rfl, -⟩ := hm; obtain ⟨k, n, ks⟩ := f; obtain ⟨sl, cap, rfl⟩ := slice_shape hv; clear hv; generalize nmsU (.mk k n ks) = UL at *; obtain ⟨W, hW⟩ : ∃ W, W = (w.alloc (.cells #[.int .i64 m.n, .slice ra m.rel.length rc, .slice ta m.tr.length tc] 25 (0, 0))).alloc (.cells #[.int .i64 k, .string n, .slice sl ks.length cap] 28 (0, 0)) := ⟨_, rfl⟩; (have HB0 : Hid (Below w.heap.size w W) := by rw [hW]; exact below_more (below_more (Below.refl _ w) _) _); (have HM0 : Hid (W.heap[w.heap.size]? = some (.cells #[.int .i64 m.n, .slice ra m.rel.length rc, .slice ta m.tr.length tc] 25 (0, 0))) := by rw [hW]; exact alloc_keep (blk_new _ _) _); (have HF0' : Hid (W.heap[w.heap.size + 1]? = some (.cells #[.int .i64 k, .string n, .slice sl ks.length cap] 28 (0, 0))) := by rw [hW]; exact blk_secE _ _ _)
  go_enter Try.func3, Try.ntmps3
  go_wp2_with fail; rw [← hW]; refine (HBe.out _).mono ?_; rintro _ w1 ⟨rfl, hb1⟩; have HB1 : Hid (Below w.heap.size w w1) := below_join HB0.out hb1; have HM1 : Hid (w1.heap[w.heap.size]? = some (.cells #[.int .i64 m.n, .slice ra m.rel.length rc, .slice ta m.tr.length tc] 25 (0, 0))) := below_keep hb1 HM0.out; have HF1 : Hid (w1.heap[w.heap.size + 1]? = some (.cells #[.int .i64 k, .string n, .slice sl ks.length cap] 28 (0, 0))) := below_keep hb1 HF0'.out; clear hb1 hW HBe HB0 HM0 HF0'; obtain ⟨a0, a1, a2, -⟩ := blk3 HF1.out; go_wp2_with fail; refine (HVf.out _ _ (HRf.out.up HB1.out)).mono ?_; rintro _ w2 ⟨⟨bb, rfl, -⟩, hb2⟩; have HB2 : Hid (Below w.heap.size w w2) := below_join HB1.out hb2; have HM2 : Hid (w2.heap[w.heap.size]? = some (.cells #[.int .i64 m.n, .slice ra m.rel.length rc, .slice ta m.tr.length tc] 25 (0, 0))) := below_keep hb2 HM1.out; have HF2 : Hid (w2.heap[w.heap.size + 1]? = some (.cells #[.int .i64 k, .string n, .slice sl ks.length cap] 28 (0, 0))) := below_keep hb2 HF1.out; clear hb2 HVf HB1 HM1 HF1 a0 a1 a2; obtain ⟨k0, k1, k2, -⟩ := blk3 HM2.out
  cases bb
  case true =>
    go_wp2_with fail; go_ret; exact ⟨rfl, HB2.out⟩
  go_wp2_with fail; refine (HOw.out _ _ (HRm.out.up HB2.out)).mono ?_; rintro _ w3 ⟨xv, rfl, hmr, hb3⟩; have HX3 : Hid (MR w3 m xv) := hmr; obtain ⟨ra2, rc2, ta2, tc2, rfl, -⟩ := hmr; have HB3 : Hid (Below w.heap.size w w3) := below_join HB2.out hb3; have HM3 : Hid (w3.heap[w.heap.size]? = some (.cells #[.int .i64 m.n, .slice ra m.rel.length rc, .slice ta m.tr.length tc] 25 (0, 0))) := below_keep hb3 HM2.out; have HF3 : Hid (w3.heap[w.heap.size + 1]? = some (.cells #[.int .i64 k, .string n, .slice sl ks.length cap] 28 (0, 0))) := below_keep hb3 HF2.out; clear hb3 HOw HB2 HM2 HF2 k0 k1 k2; obtain ⟨X, hX⟩ : ∃ X, X = w3.alloc (.cells #[.int .i64 m.n, .slice ra2 m.rel.length rc2, .slice ta2 m.tr.length tc2] 25 (0, 0)) := ⟨_, rfl⟩; (have HXB : Hid (Below w3.heap.size w3 X) := by rw [hX]; exact below_more (Below.refl _ _) _); (have HXN : Hid (X.heap[w3.heap.size]? = some (.cells #[.int .i64 m.n, .slice ra2 m.rel.length rc2, .slice ta2 m.tr.length tc2] 25 (0, 0))) := by rw [hX]; exact blk_new _ _); have HXf : Hid (X.heap[w.heap.size + 1]? = some (.cells #[.int .i64 k, .string n, .slice sl ks.length cap] 28 (0, 0))) := below_keep HXB.out HF3.out; have hXe := hX.symm; clear hX; obtain ⟨a0, a1, a2, -⟩ := blk3 HXf.out; obtain ⟨k0, k1, k2, -⟩ := blk3 HXN.out; go_wp2_with fail; refine (HEv.out _ _ _ (HX3.out.up HXB.out) (HRf.out.up (below_join HB3.out HXB.out))).mono ?_; rintro _ w4 ⟨x1, rfl, hbl, hb4⟩; have HL4 : Hid (BL w4 x1 L1) := hbl; have HB4 : Hid (Below w3.heap.size w3 w4) := below_join HXB.out hb4; have HN4 : Hid (w4.heap[w3.heap.size]? = some (.cells #[.int .i64 m.n, .slice ra2 m.rel.length rc2, .slice ta2 m.tr.length tc2] 25 (0, 0))) := below_keep hb4 HXN.out; have h34 := lt_of_block HN4.out; clear hbl hb4 HEv hXe a0 a1 a2 k0 k1 k2 HXB HXN HXf; obtain ⟨X, hX⟩ : ∃ X, X = w4.alloc (.cells #[.int .i64 c1, .int .i64 d1] 34 (0, 0)) := ⟨_, rfl⟩; (have HXB : Hid (Below w4.heap.size w4 X) := by rw [hX]; exact below_more (Below.refl _ _) _); (have HX1 : Hid (X.heap[w4.heap.size]? = some (.cells #[.int .i64 c1, .int .i64 d1] 34 (0, 0))) := by rw [hX]; exact blk_new _ _); have hXe := hX.symm; clear hX; obtain ⟨a0, a1, a2, -⟩ := blk3 (below_keep HXB.out (below_keep HB4.out HF3.out)); obtain ⟨k0, k1, k2, -⟩ := blk3 (below_keep HXB.out HN4.out); go_wp2_with fail; refine (HHo.out _ _ _ (HX3.out.up (below_join HB4.out HXB.out)) (HRf.out.up (below_join HB3.out (below_join HB4.out HXB.out)))).mono ?_; rintro _ w5 ⟨rfl, hb5⟩; have HB5 : Hid (Below w3.heap.size w3 w5) := below_join (below_join HB4.out HXB.out) hb5; have HN5 : Hid (w5.heap[w3.heap.size]? = some (.cells #[.int .i64 m.n, .slice ra2 m.rel.length rc2, .slice ta2 m.tr.length tc2] 25 (0, 0))) := below_keep hb5 (below_keep HXB.out HN4.out); have HE5 : Hid (w5.heap[w4.heap.size]? = some (.cells #[.int .i64 c1, .int .i64 d1] 34 (0, 0))) := below_keep hb5 HX1.out; have HL5 : Hid (BL w5 x1 L1) := HL4.out.up (below_join HXB.out hb5); have h45 := lt_of_block HE5.out; clear hb5 HHo hXe a0 a1 a2 k0 k1 k2 HXB HX1 HN4 HL4 HB4; obtain ⟨X, hX⟩ : ∃ X, X = w5.alloc (.cells #[.int .i64 c2, .int .i64 d2] 34 (0, 0)) := ⟨_, rfl⟩; (have HXB : Hid (Below w5.heap.size w5 X) := by rw [hX]; exact below_more (Below.refl _ _) _); (have HX1 : Hid (X.heap[w5.heap.size]? = some (.cells #[.int .i64 c2, .int .i64 d2] 34 (0, 0))) := by rw [hX]; exact blk_new _ _); have hXe := hX.symm; clear hX; obtain ⟨k0, k1, k2, -⟩ := blk3 (below_keep HXB.out HN5.out); go_wp2_with fail; refine (HSh.out _ _ (HX3.out.up (below_join HB5.out HXB.out))).mono ?_; rintro _ w6 ⟨rfl, hb6⟩; have HB6 : Hid (Below w3.heap.size w3 w6) := below_join (below_join HB5.out HXB.out) hb6; have HN6 : Hid (w6.heap[w3.heap.size]? = some (.cells #[.int .i64 m.n, .slice ra2 m.rel.length rc2, .slice ta2 m.tr.length tc2] 25 (0, 0))) := below_keep hb6 (below_keep HXB.out HN5.out); have HE6 : Hid (w6.heap[w4.heap.size]? = some (.cells #[.int .i64 c1, .int .i64 d1] 34 (0, 0))) := below_keep hb6 (below_keep HXB.out HE5.out); have HG6 : Hid (w6.heap[w5.heap.size]? = some (.cells #[.int .i64 c2, .int .i64 d2] 34 (0, 0))) := below_keep hb6 HX1.out; have HL6 : Hid (BL w6 x1 L1) := HL5.out.up (below_join HXB.out hb6)
  clear hb6 HSh hXe k0 k1 k2 HXB HX1 HN5 HL5 HB5 HE5; obtain ⟨X, hX⟩ : ∃ X, X = (w6.alloc (.cells #[.bool s0, .bool s1, .bool s2, .bool s3, .bool s4, .bool s5] 39 (0, 0))).alloc (.cells #[.int .i64 c, .int .i64 d] 34 (0, 0)) := ⟨_, rfl⟩; (have HXB : Hid (Below w6.heap.size w6 X) := by rw [hX]; exact below_more (below_more (Below.refl _ _) _) _); (have HX1 : Hid (X.heap[w6.heap.size]? = some (.cells #[.bool s0, .bool s1, .bool s2, .bool s3, .bool s4, .bool s5] 39 (0, 0))) := by rw [hX]; exact alloc_keep (blk_new _ _) _); (have HX2 : Hid (X.heap[w6.heap.size + 1]? = some (.cells #[.int .i64 c, .int .i64 d] 34 (0, 0))) := by rw [hX]; exact blk_secE _ _ _); have hXe := hX.symm; clear hX; obtain ⟨k0, k1, k2, -⟩ := blk3 (below_keep HXB.out (below_keep HB6.out HM3.out)); go_wp2_with fail; refine (HMf.out _ _ (HRm.out.up (below_join HB3.out (below_join HB6.out HXB.out)))).mono ?_; rintro _ w7 ⟨rfl, hb7⟩; obtain ⟨Y, hY⟩ : ∃ Y, Y = w7.alloc (.cells #[.int .i64 c, .int .i64 d] 34 (0, 0)) := ⟨_, rfl⟩; (have h67 : w6.heap.size + 1 < w7.heap.size := by have := lt_of_block HX2.out; have := hb7.size; omega); have H67 : Hid (w6.heap.size + 1 < w7.heap.size) := h67; (have hbY : Below w6.heap.size w6 Y := by rw [hY]; exact below_more (below_join HXB.out hb7) _); have H3Y : Hid (Below w3.heap.size w3 Y) := below_join HB6.out hbY; have HYB : Hid (Below w.heap.size w Y) := below_join HB3.out H3Y.out; have HYm : Hid (Y.heap[w.heap.size]? = some (.cells #[.int .i64 m.n, .slice ra m.rel.length rc, .slice ta m.tr.length tc] 25 (0, 0))) := below_keep H3Y.out HM3.out; have HYf : Hid (Y.heap[w.heap.size + 1]? = some (.cells #[.int .i64 k, .string n, .slice sl ks.length cap] 28 (0, 0))) := below_keep H3Y.out HF3.out; have HYn : Hid (Y.heap[w3.heap.size]? = some (.cells #[.int .i64 m.n, .slice ra2 m.rel.length rc2, .slice ta2 m.tr.length tc2] 25 (0, 0))) := below_keep hbY HN6.out; have HY1 : Hid (Y.heap[w4.heap.size]? = some (.cells #[.int .i64 c1, .int .i64 d1] 34 (0, 0))) := below_keep hbY HE6.out; have HY2 : Hid (Y.heap[w5.heap.size]? = some (.cells #[.int .i64 c2, .int .i64 d2] 34 (0, 0))) := below_keep hbY HG6.out; (have HYs : Hid (Y.heap[w6.heap.size]? = some (.cells #[.bool s0, .bool s1, .bool s2, .bool s3, .bool s4, .bool s5] 39 (0, 0))) := by rw [hY]; exact alloc_keep (below_keep hb7 HX1.out) _); (have HY3 : Hid (Y.heap[w6.heap.size + 1]? = some (.cells #[.int .i64 c, .int .i64 d] 34 (0, 0))) := by rw [hY]; exact alloc_keep (below_keep hb7 HX2.out) _); (have HYw : Hid (Y.heap[w7.heap.size]? = some (.cells #[.int .i64 c, .int .i64 d] 34 (0, 0))) := by rw [hY]; exact blk_new _ _); have HYL : Hid (BL Y x1 L1) := HL6.out.up hbY; have HYx : Hid (MR Y m (.agg #[.int .i64 m.n, .slice ra2 m.rel.length rc2, .slice ta2 m.tr.length tc2])) := HX3.out.up H3Y.out; have HYr : Hid (MR Y m (.agg #[.int .i64 m.n, .slice ra m.rel.length rc, .slice ta m.tr.length tc])) := HRm.out.up HYB.out; (have HYp : Hid (Rep Y (fun _ => True) (.mk k n ks) (.agg #[.int .i64 k, .string n, .slice sl ks.length cap])) := HRf.out.up HYB.out); have H37 : Hid (w.heap.size + 1 < w3.heap.size ∧ w3.heap.size < w4.heap.size ∧ w4.heap.size < w5.heap.size ∧ w5.heap.size < w6.heap.size) := ⟨lt_of_block HF3.out, h34, h45, lt_of_block HG6.out⟩; go_wp2_with fail; rw [← hY]; clear hY hbY hb7 HXB HX1 HX2 hXe k0 k1 k2 HB6 HN6 HE6 HG6 HL6 HX3 HM3 HF3 HB3 HMf h67 h34 h45; by_cases hc : c = 0
  case neg =>
    (have hcn : (c != 0) = true := by simpa using hc); (have hce : (c == 0) = false := by simpa using hc); obtain ⟨rfl, rfl, rfl, rfl, rfl, rfl⟩ := HSf.out hc; have hmf := HMn.out hc; (obtain ⟨rfl, rfl⟩ : c1 = c ∧ d1 = d := by simpa using hmf); obtain ⟨h2, rfl⟩ := HHs.out.1 hc; (obtain ⟨rfl, rfl⟩ : c1 = c2 ∧ d1 = d2 := by simpa using h2); obtain rfl : L1 = [] := HL0.out hc; clear h2 hmf hc HOk HSo HF0 HMd HCz HHs HSf HL0 HL9 HMn; (refine wp_region_free (by kernel_rfl) [fun v _ => v = (.agg #[.int .i64 m.n, .slice ra2 m.rel.length rc2, .slice ta2 m.tr.length tc2]), fun v _ => v = (.agg #[.int .i64 m.n, .slice ra m.rel.length rc, .slice ta m.tr.length tc]), fun v _ => v = (.bool true), fun v _ => v = (.bool false), fun v _ => v = (.bool false), fun v _ => v = (.agg #[.int .i64 c1, .int .i64 d1]), fun v _ => v = (.agg #[.int .i64 c1, .int .i64 d1]), fun v _ => v = (.bool false), fun v _ => v = (.bool false), fun v _ => v = (.bool false), fun v _ => v = (.pointer (some ⟨w7.heap.size, 0, none⟩)), fun v _ => v = (.int .i64 c1), fun v _ => v = (.bool true), fun v _ => v = (.bool true), fun v _ => v = (.agg #[.bool false, .bool false, .bool false, .bool false, .bool false, .bool false]), fun v _ => v = (.agg #[.bool false, .bool false, .bool false, .bool false, .bool false, .bool false]), fun v _ => v = (.bool false), fun v _ => v = (.bool false), fun v _ => v = (.bool false), fun v _ => v = (.bool false), fun v _ => v = (.pointer (some ⟨w7.heap.size, 0, none⟩)), fun v _ => v = (.int .i64 c1), fun v _ => v = (.bool false), fun v _ => v = (.bool false), fun _ _ => True, fun _ _ => True, fun _ _ => True, fun _ _ => True, fun v _ => v = (.bool false), fun v _ => v = (.bool false)] ?_ (by kernel_rfl) (by kernel_rfl) 143 rfl (by kernel_rfl) ?_ ?_)
    · intro p hp
      simp only [List.mem_cons, List.not_mem_nil, or_false] at hp
      rcases hp with rfl | rfl | rfl | rfl | rfl | rfl | rfl | rfl | rfl | rfl | rfl | rfl | rfl | rfl | rfl | rfl | rfl | rfl | rfl | rfl | rfl | rfl | rfl | rfl | rfl | rfl | rfl | rfl | rfl | rfl
      · exact fun _ _ _ h _ => h
      · exact fun _ _ _ h _ => h
      · exact fun _ _ _ h _ => h
      · exact fun _ _ _ h _ => h
      · exact fun _ _ _ h _ => h
      · exact fun _ _ _ h _ => h
      · exact fun _ _ _ h _ => h
      · exact fun _ _ _ h _ => h
      · exact fun _ _ _ h _ => h
      · exact fun _ _ _ h _ => h
      · exact fun _ _ _ h _ => h
      · exact fun _ _ _ h _ => h
      · exact fun _ _ _ h _ => h
      · exact fun _ _ _ h _ => h
      · exact fun _ _ _ h _ => h
      · exact fun _ _ _ h _ => h
      · exact fun _ _ _ h _ => h
      · exact fun _ _ _ h _ => h
      · exact fun _ _ _ h _ => h
      · exact fun _ _ _ h _ => h
      · exact fun _ _ _ h _ => h
      · exact fun _ _ _ h _ => h
      · exact fun _ _ _ h _ => h
      · exact fun _ _ _ h _ => h
      · exact fun _ _ _ h _ => h
      · exact fun _ _ _ h _ => h
      · exact fun _ _ _ h _ => h
      · exact fun _ _ _ h _ => h
      · exact fun _ _ _ h _ => h
      · exact fun _ _ _ h _ => h
    · refine ⟨?_, ?_, ?_, ?_, ?_, ?_, ?_, ?_, ?_, ?_, ?_, ?_, ?_, ?_, ?_, ?_, ?_, ?_, ?_, ?_, ?_, ?_, ?_, ?_, ?_, ?_, ?_, ?_, ?_, ?_, trivial⟩
      · intro a wx hB hold hdep K hK
        have t5 : a.tmps[5]? = some (.pointer (some ⟨w3.heap.size, 0, none⟩)) := hold.2.2 5 rfl; obtain ⟨q0, q1, q2, -⟩ := blk3 (below_keep hB HYn.out); clear hold hdep; go_simp; exact hK.out _ _ rfl (Below.refl _ _)
      · intro a wx hB hold hdep K hK
        have t2 : a.tmps[2]? = some (.pointer (some ⟨w.heap.size, 0, none⟩)) := hold.2.2 2 rfl; obtain ⟨q0, q1, q2, -⟩ := blk3 (below_keep hB HYm.out); clear hold hdep; go_simp; exact hK.out _ _ rfl (Below.refl _ _)
      · intro a wx hB hold hdep K hK
        obtain ⟨v38, t38, p38⟩ := hdep 0 rfl _ 38 rfl rfl; have e38 : v38 = (.agg #[.int .i64 m.n, .slice ra2 m.rel.length rc2, .slice ta2 m.tr.length tc2]) := p38; subst e38; obtain ⟨v39, t39, p39⟩ := hdep 1 rfl _ 39 rfl rfl; have e39 : v39 = (.agg #[.int .i64 m.n, .slice ra m.rel.length rc, .slice ta m.tr.length tc]) := p39; subst e39; have HW : Hid (Calls Try.prog 15 #[.agg #[.int .i64 m.n, .slice ra2 m.rel.length rc2, .slice ta2 m.tr.length tc2], .agg #[.int .i64 m.n, .slice ra m.rel.length rc, .slice ta m.tr.length tc]] wx _) := HSm.out _ _ _ (HYx.out.up hB) (HYr.out.up hB); clear hold hdep; go_simp; refine HW.out.mono ?_; rintro _ w9 ⟨rfl, hb9⟩; go_simp; exact hK.out _ _ rfl hb9
      · intro a wx hB hold hdep K hK
        obtain ⟨v40, t40, p40⟩ := hdep 2 rfl _ 40 rfl rfl; have e40 : v40 = (.bool true) := p40; subst e40; clear hold hdep; go_simp; exact hK.out _ _ rfl (Below.refl _ _)
      · intro a wx hB hold hdep K hK
        obtain ⟨v41, t41, p41⟩ := hdep 3 rfl _ 41 rfl rfl; have e41 : v41 = (.bool false) := p41; subst e41; clear hold hdep; go_simp; exact hK.out _ _ rfl (Below.refl _ _)
      · intro a wx hB hold hdep K hK
        obtain ⟨v42, t42, p42⟩ := hdep 4 rfl _ 42 rfl rfl; have e42 : v42 = (.bool false) := p42; subst e42; have t11 : a.tmps[11]? = some (.pointer (some ⟨w6.heap.size + 1, 0, none⟩)) := hold.2.2 11 rfl; obtain ⟨q0, q1, -⟩ := blk2 (below_keep hB HY3.out); clear hold hdep; go_simp; exact hK.out _ _ rfl (Below.refl _ _)
      · intro a wx hB hold hdep K hK
        obtain ⟨v42, t42, p42⟩ := hdep 4 rfl _ 42 rfl rfl; have e42 : v42 = (.bool false) := p42; subst e42; have t12 : a.tmps[12]? = some (.pointer (some ⟨w7.heap.size, 0, none⟩)) := hold.2.2 12 rfl; obtain ⟨q0, q1, -⟩ := blk2 (below_keep hB HYw.out); clear hold hdep; go_simp; exact hK.out _ _ rfl (Below.refl _ _)
      · intro a wx hB hold hdep K hK
        obtain ⟨v42, t42, p42⟩ := hdep 4 rfl _ 42 rfl rfl; have e42 : v42 = (.bool false) := p42; subst e42; obtain ⟨v43, t43, p43⟩ := hdep 5 rfl _ 43 rfl rfl; have e43 : v43 = (.agg #[.int .i64 c1, .int .i64 d1]) := p43; subst e43; obtain ⟨v44, t44, p44⟩ := hdep 6 rfl _ 44 rfl rfl; have e44 : v44 = (.agg #[.int .i64 c1, .int .i64 d1]) := p44; subst e44; clear hold hdep; go_simp; exact hK.out _ _ rfl (Below.refl _ _)
      · intro a wx hB hold hdep K hK
        obtain ⟨v42, t42, p42⟩ := hdep 4 rfl _ 42 rfl rfl; have e42 : v42 = (.bool false) := p42; subst e42; obtain ⟨v45, t45, p45⟩ := hdep 7 rfl _ 45 rfl rfl; have e45 : v45 = (.bool false) := p45; subst e45; clear hold hdep; go_simp; exact hK.out _ _ rfl (Below.refl _ _)
      · intro a wx hB hold hdep K hK
        obtain ⟨v46, t46, p46⟩ := hdep 8 rfl _ 46 rfl rfl; have e46 : v46 = (.bool false) := p46; subst e46; clear hold hdep; go_simp; exact hK.out _ _ rfl (Below.refl _ _)
      · intro a wx hB hold hdep K hK
        obtain ⟨v47, t47, p47⟩ := hdep 9 rfl _ 47 rfl rfl; have e47 : v47 = (.bool false) := p47; subst e47; have t12 : a.tmps[12]? = some (.pointer (some ⟨w7.heap.size, 0, none⟩)) := hold.2.2 12 rfl; clear hold hdep; go_simp; exact hK.out _ _ rfl (Below.refl _ _)
      · intro a wx hB hold hdep K hK
        obtain ⟨v47, t47, p47⟩ := hdep 9 rfl _ 47 rfl rfl; have e47 : v47 = (.bool false) := p47; subst e47; obtain ⟨v48, t48, p48⟩ := hdep 10 rfl _ 48 rfl rfl; have e48 : v48 = (.pointer (some ⟨w7.heap.size, 0, none⟩)) := p48; subst e48; obtain ⟨q0, q1, -⟩ := blk2 (below_keep hB HYw.out); clear hold hdep; go_simp; exact hK.out _ _ rfl (Below.refl _ _)
      · intro a wx hB hold hdep K hK
        obtain ⟨v47, t47, p47⟩ := hdep 9 rfl _ 47 rfl rfl; have e47 : v47 = (.bool false) := p47; subst e47; obtain ⟨v49, t49, p49⟩ := hdep 11 rfl _ 49 rfl rfl; have e49 : v49 = (.int .i64 c1) := p49; subst e49; have h9 := hcn; clear hold hdep; go_simp; exact hK.out _ _ rfl (Below.refl _ _)
      · intro a wx hB hold hdep K hK
        obtain ⟨v47, t47, p47⟩ := hdep 9 rfl _ 47 rfl rfl; have e47 : v47 = (.bool false) := p47; subst e47; obtain ⟨v50, t50, p50⟩ := hdep 12 rfl _ 50 rfl rfl; have e50 : v50 = (.bool true) := p50; subst e50; clear hold hdep; go_simp; exact hK.out _ _ rfl (Below.refl _ _)
      · intro a wx hB hold hdep K hK
        obtain ⟨v51, t51, p51⟩ := hdep 13 rfl _ 51 rfl rfl; have e51 : v51 = (.bool true) := p51; subst e51; have t10 : a.tmps[10]? = some (.pointer (some ⟨w6.heap.size, 0, none⟩)) := hold.2.2 10 rfl; obtain ⟨q0, q1, q2, q3, q4, q5⟩ := blk6M (below_keep hB HYs.out); clear hold hdep; go_simp; exact hK.out _ _ rfl (Below.refl _ _)
      · intro a wx hB hold hdep K hK
        obtain ⟨v51, t51, p51⟩ := hdep 13 rfl _ 51 rfl rfl; have e51 : v51 = (.bool true) := p51; subst e51; clear hold hdep; go_simp; exact hK.out _ _ rfl (Below.refl _ _)
      · intro a wx hB hold hdep K hK
        obtain ⟨v51, t51, p51⟩ := hdep 13 rfl _ 51 rfl rfl; have e51 : v51 = (.bool true) := p51; subst e51; obtain ⟨v52, t52, p52⟩ := hdep 14 rfl _ 52 rfl rfl; have e52 : v52 = (.agg #[.bool false, .bool false, .bool false, .bool false, .bool false, .bool false]) := p52; subst e52; obtain ⟨v53, t53, p53⟩ := hdep 15 rfl _ 53 rfl rfl; have e53 : v53 = (.agg #[.bool false, .bool false, .bool false, .bool false, .bool false, .bool false]) := p53; subst e53; have hpn := six_neq false false false false false false; have hpg := six_guard; clear hold hdep; go_simp; exact hK.out _ _ rfl (Below.refl _ _)
      · intro a wx hB hold hdep K hK
        obtain ⟨v47, t47, p47⟩ := hdep 9 rfl _ 47 rfl rfl; have e47 : v47 = (.bool false) := p47; subst e47; obtain ⟨v51, t51, p51⟩ := hdep 13 rfl _ 51 rfl rfl; have e51 : v51 = (.bool true) := p51; subst e51; obtain ⟨v54, t54, p54⟩ := hdep 16 rfl _ 54 rfl rfl; have e54 : v54 = (.bool false) := p54; subst e54; clear hold hdep; go_simp; exact hK.out _ _ rfl (Below.refl _ _)
      · intro a wx hB hold hdep K hK
        obtain ⟨v47, t47, p47⟩ := hdep 9 rfl _ 47 rfl rfl; have e47 : v47 = (.bool false) := p47; subst e47; obtain ⟨v55, t55, p55⟩ := hdep 17 rfl _ 55 rfl rfl; have e55 : v55 = (.bool false) := p55; subst e55; clear hold hdep; go_simp; exact hK.out _ _ rfl (Below.refl _ _)
      · intro a wx hB hold hdep K hK
        obtain ⟨v56, t56, p56⟩ := hdep 18 rfl _ 56 rfl rfl; have e56 : v56 = (.bool false) := p56; subst e56; clear hold hdep; go_simp; exact hK.out _ _ rfl (Below.refl _ _)
      · intro a wx hB hold hdep K hK
        obtain ⟨v57, t57, p57⟩ := hdep 19 rfl _ 57 rfl rfl; have e57 : v57 = (.bool false) := p57; subst e57; have t12 : a.tmps[12]? = some (.pointer (some ⟨w7.heap.size, 0, none⟩)) := hold.2.2 12 rfl; clear hold hdep; go_simp; exact hK.out _ _ rfl (Below.refl _ _)
      · intro a wx hB hold hdep K hK
        obtain ⟨v57, t57, p57⟩ := hdep 19 rfl _ 57 rfl rfl; have e57 : v57 = (.bool false) := p57; subst e57; obtain ⟨v58, t58, p58⟩ := hdep 20 rfl _ 58 rfl rfl; have e58 : v58 = (.pointer (some ⟨w7.heap.size, 0, none⟩)) := p58; subst e58; obtain ⟨q0, q1, -⟩ := blk2 (below_keep hB HYw.out); clear hold hdep; go_simp; exact hK.out _ _ rfl (Below.refl _ _)
      · intro a wx hB hold hdep K hK
        obtain ⟨v57, t57, p57⟩ := hdep 19 rfl _ 57 rfl rfl; have e57 : v57 = (.bool false) := p57; subst e57; obtain ⟨v59, t59, p59⟩ := hdep 21 rfl _ 59 rfl rfl; have e59 : v59 = (.int .i64 c1) := p59; subst e59; have h9 := hce; clear hold hdep; go_simp; exact hK.out _ _ rfl (Below.refl _ _)
      · intro a wx hB hold hdep K hK
        obtain ⟨v57, t57, p57⟩ := hdep 19 rfl _ 57 rfl rfl; have e57 : v57 = (.bool false) := p57; subst e57; obtain ⟨v60, t60, p60⟩ := hdep 22 rfl _ 60 rfl rfl; have e60 : v60 = (.bool false) := p60; subst e60; clear hold hdep; go_simp; exact hK.out _ _ rfl (Below.refl _ _)
      · intro a wx hB hold hdep K hK
        obtain ⟨v61, t61, p61⟩ := hdep 23 rfl _ 61 rfl rfl; have e61 : v61 = (.bool false) := p61; subst e61; clear hold hdep; go_simp; exact hK.out _ _ trivial (Below.refl _ _)
      · intro a wx hB hold hdep K hK
        obtain ⟨v61, t61, p61⟩ := hdep 23 rfl _ 61 rfl rfl; have e61 : v61 = (.bool false) := p61; subst e61; clear hold hdep; go_simp; exact hK.out _ _ trivial (Below.refl _ _)
      · intro a wx hB hold hdep K hK
        obtain ⟨v61, t61, p61⟩ := hdep 23 rfl _ 61 rfl rfl; have e61 : v61 = (.bool false) := p61; subst e61; clear hold hdep; go_simp; exact hK.out _ _ trivial (Below.refl _ _)
      · intro a wx hB hold hdep K hK
        obtain ⟨v61, t61, p61⟩ := hdep 23 rfl _ 61 rfl rfl; have e61 : v61 = (.bool false) := p61; subst e61; clear hold hdep; go_simp; exact hK.out _ _ trivial (Below.refl _ _)
      · intro a wx hB hold hdep K hK
        obtain ⟨v57, t57, p57⟩ := hdep 19 rfl _ 57 rfl rfl; have e57 : v57 = (.bool false) := p57; subst e57; obtain ⟨v61, t61, p61⟩ := hdep 23 rfl _ 61 rfl rfl; have e61 : v61 = (.bool false) := p61; subst e61; clear hold hdep; go_simp; exact hK.out _ _ rfl (Below.refl _ _)
      · intro a wx hB hold hdep K hK
        obtain ⟨v57, t57, p57⟩ := hdep 19 rfl _ 57 rfl rfl; have e57 : v57 = (.bool false) := p57; subst e57; obtain ⟨v66, t66, p66⟩ := hdep 28 rfl _ 66 rfl rfl; have e66 : v66 = (.bool false) := p66; subst e66; clear hold hdep; go_simp; exact hK.out _ _ rfl (Below.refl _ _)
    · intro a wx hB hold hgot
      obtain ⟨vZ, tvZ, pvZ⟩ := hgot 29 _ 67 rfl rfl; have evZ : vZ = (.bool false) := pvZ; subst evZ; have HBx : Hid (Below Y.heap.size Y wx) := hB; obtain ⟨tm, df⟩ := a; (obtain ⟨ys, hys, htm, rfl⟩ := frame_mid2 38 30 (by kernel_rfl) (Nat.le_of_ble_eq_true rfl) hold); obtain ⟨x38, x39, x40, x41, x42, x43, x44, x45, x46, x47, x48, x49, x50, x51, x52, x53, x54, x55, x56, x57, x58, x59, x60, x61, x62, x63, x64, x65, x66, x67, rfl⟩ := rowE30 ys hys; simp only [List.take_succ_cons, List.take_zero, List.drop_succ_cons, List.drop_zero, List.cons_append, List.nil_append] at htm; subst htm; obtain rfl : x67 = _ := someInjM tvZ; clear hys hold hgot tvZ hB; obtain ⟨VA, hVA⟩ : ∃ V, V = wx := ⟨_, rfl⟩; subst hVA; obtain ⟨g0, g1, -⟩ := blk2 (below_keep HBx.out HYw.out); have HVAm : Hid (VA.heap[w.heap.size]? = some (.cells #[.int .i64 m.n, .slice ra m.rel.length rc, .slice ta m.tr.length tc] 25 (0, 0))) := below_keep HBx.out HYm.out; have HVAf : Hid (VA.heap[w.heap.size + 1]? = some (.cells #[.int .i64 k, .string n, .slice sl ks.length cap] 28 (0, 0))) := below_keep HBx.out HYf.out; have HVAn : Hid (VA.heap[w3.heap.size]? = some (.cells #[.int .i64 m.n, .slice ra2 m.rel.length rc2, .slice ta2 m.tr.length tc2] 25 (0, 0))) := below_keep HBx.out HYn.out; have HVA1 : Hid (VA.heap[w4.heap.size]? = some (.cells #[.int .i64 c1, .int .i64 d1] 34 (0, 0))) := below_keep HBx.out HY1.out; have HVA2 : Hid (VA.heap[w5.heap.size]? = some (.cells #[.int .i64 c1, .int .i64 d1] 34 (0, 0))) := below_keep HBx.out HY2.out; have HVAw : Hid (VA.heap[w7.heap.size]? = some (.cells #[.int .i64 c1, .int .i64 d1] 34 (0, 0))) := below_keep HBx.out HYw.out; have HVAB : Hid (Below w.heap.size w VA) := below_join HYB.out HBx.out; have HVAL : Hid (BL VA x1 []) := HYL.out.up HBx.out; obtain ⟨e0, e1, -⟩ := blk2 HVA1.out; obtain ⟨g0, g1, -⟩ := blk2 HVAw.out; obtain ⟨adL, cpL, rfl, -⟩ := HVAL.out; go_wp2_with fail; clear e0 e1 g0 g1; (refine wp_region_free (by kernel_rfl) [fun v _ => v = (.pointer (some ⟨w7.heap.size, 0, none⟩)), fun v _ => v = (.int .i64 c1), fun v _ => v = (.bool false), fun v _ => v = (.bool false), fun _ _ => True, fun _ _ => True, fun _ _ => True, fun _ _ => True, fun _ _ => True, fun _ _ => True, fun _ _ => True, fun _ _ => True, fun v _ => v = (.bool false)] ?_ (by kernel_rfl) (by kernel_rfl) 143 rfl (by kernel_rfl) ?_ ?_)
      · intro p hp
        simp only [List.mem_cons, List.not_mem_nil, or_false] at hp
        rcases hp with rfl | rfl | rfl | rfl | rfl | rfl | rfl | rfl | rfl | rfl | rfl | rfl | rfl
        · exact fun _ _ _ h _ => h
        · exact fun _ _ _ h _ => h
        · exact fun _ _ _ h _ => h
        · exact fun _ _ _ h _ => h
        · exact fun _ _ _ h _ => h
        · exact fun _ _ _ h _ => h
        · exact fun _ _ _ h _ => h
        · exact fun _ _ _ h _ => h
        · exact fun _ _ _ h _ => h
        · exact fun _ _ _ h _ => h
        · exact fun _ _ _ h _ => h
        · exact fun _ _ _ h _ => h
        · exact fun _ _ _ h _ => h
      · refine ⟨?_, ?_, ?_, ?_, ?_, ?_, ?_, ?_, ?_, ?_, ?_, ?_, ?_, trivial⟩
        · intro a wx hB hold hdep K hK
          have t12 : a.tmps[12]? = some (.pointer (some ⟨w7.heap.size, 0, none⟩)) := hold.2.2 12 rfl; clear hold hdep; go_simp; exact hK.out _ _ rfl (Below.refl _ _)
        · intro a wx hB hold hdep K hK
          obtain ⟨v99, t99, p99⟩ := hdep 0 rfl _ 99 rfl rfl; have e99 : v99 = (.pointer (some ⟨w7.heap.size, 0, none⟩)) := p99; subst e99; obtain ⟨q0, q1, -⟩ := blk2 (below_keep hB HVAw.out); clear hold hdep; go_simp; exact hK.out _ _ rfl (Below.refl _ _)
        · intro a wx hB hold hdep K hK
          obtain ⟨v100, t100, p100⟩ := hdep 1 rfl _ 100 rfl rfl; have e100 : v100 = (.int .i64 c1) := p100; subst e100; have h9 := hce; clear hold hdep; go_simp; exact hK.out _ _ rfl (Below.refl _ _)
        · intro a wx hB hold hdep K hK
          obtain ⟨v101, t101, p101⟩ := hdep 2 rfl _ 101 rfl rfl; have e101 : v101 = (.bool false) := p101; subst e101; clear hold hdep; go_simp; exact hK.out _ _ rfl (Below.refl _ _)
        · intro a wx hB hold hdep K hK
          obtain ⟨v102, t102, p102⟩ := hdep 3 rfl _ 102 rfl rfl; have e102 : v102 = (.bool false) := p102; subst e102; clear hold hdep; go_simp; exact hK.out _ _ trivial (Below.refl _ _)
        · intro a wx hB hold hdep K hK
          obtain ⟨v102, t102, p102⟩ := hdep 3 rfl _ 102 rfl rfl; have e102 : v102 = (.bool false) := p102; subst e102; clear hold hdep; go_simp; exact hK.out _ _ trivial (Below.refl _ _)
        · intro a wx hB hold hdep K hK
          obtain ⟨v102, t102, p102⟩ := hdep 3 rfl _ 102 rfl rfl; have e102 : v102 = (.bool false) := p102; subst e102; clear hold hdep; go_simp; exact hK.out _ _ trivial (Below.refl _ _)
        · intro a wx hB hold hdep K hK
          obtain ⟨v102, t102, p102⟩ := hdep 3 rfl _ 102 rfl rfl; have e102 : v102 = (.bool false) := p102; subst e102; clear hold hdep; go_simp; exact hK.out _ _ trivial (Below.refl _ _)
        · intro a wx hB hold hdep K hK
          obtain ⟨v102, t102, p102⟩ := hdep 3 rfl _ 102 rfl rfl; have e102 : v102 = (.bool false) := p102; subst e102; clear hold hdep; go_simp; exact hK.out _ _ trivial (Below.refl _ _)
        · intro a wx hB hold hdep K hK
          obtain ⟨v102, t102, p102⟩ := hdep 3 rfl _ 102 rfl rfl; have e102 : v102 = (.bool false) := p102; subst e102; clear hold hdep; go_simp; exact hK.out _ _ trivial (Below.refl _ _)
        · intro a wx hB hold hdep K hK
          obtain ⟨v102, t102, p102⟩ := hdep 3 rfl _ 102 rfl rfl; have e102 : v102 = (.bool false) := p102; subst e102; clear hold hdep; go_simp; exact hK.out _ _ trivial (Below.refl _ _)
        · intro a wx hB hold hdep K hK
          obtain ⟨v102, t102, p102⟩ := hdep 3 rfl _ 102 rfl rfl; have e102 : v102 = (.bool false) := p102; subst e102; clear hold hdep; go_simp; exact hK.out _ _ trivial (Below.refl _ _)
        · intro a wx hB hold hdep K hK
          obtain ⟨v102, t102, p102⟩ := hdep 3 rfl _ 102 rfl rfl; have e102 : v102 = (.bool false) := p102; subst e102; clear hold hdep; go_simp; exact hK.out _ _ rfl (Below.refl _ _)
      · intro a wx hB hold hgot
        obtain ⟨vZ, tvZ, pvZ⟩ := hgot 12 _ 111 rfl rfl; have evZ : vZ = (.bool false) := pvZ; subst evZ; have HBx : Hid (Below VA.heap.size VA wx) := hB; obtain ⟨tm, df⟩ := a; (obtain ⟨ys, hys, htm, rfl⟩ := frame_mid2 99 13 (by kernel_rfl) (Nat.le_of_ble_eq_true rfl) hold); obtain ⟨x99, x100, x101, x102, x103, x104, x105, x106, x107, x108, x109, x110, x111, rfl⟩ := rowE13 ys hys; simp only [List.take_succ_cons, List.take_zero, List.drop_succ_cons, List.drop_zero, List.cons_append, List.nil_append] at htm; subst htm; obtain rfl : x111 = _ := someInjM tvZ; clear hys hold hgot tvZ hB; obtain ⟨e0, e1, -⟩ := blk2 (below_keep HBx.out HVA2.out); obtain ⟨g0, g1, -⟩ := blk2 (below_keep HBx.out HVAw.out); go_wp2_with fail; go_ret; exact ⟨rfl, below_join HVAB.out HBx.out⟩
  subst hc; obtain rfl : d = 0 := HCz.out rfl; have HSo : Hid (∀ v W, MR W m v → Calls Try.prog 16 #[v] W _) := HSo.out rfl; have hmf := HMd.out rfl; (obtain ⟨rfl, rfl⟩ : c1 = fc ∧ d1 = fd := by simpa using hmf); (have HFz : Hid (c1 = 0 → d1 = 0) := fun h => by have := HF0.out h rfl; simpa using congrArg Prod.snd this); (have hcn : ((0 : Int) != 0) = false := by simp); (have hce : ((0 : Int) == 0) = true := by simp); clear hmf HCz HMd HMn HSf HF0; (refine wp_region_free (by kernel_rfl) [fun v _ => v = (.agg #[.int .i64 m.n, .slice ra2 m.rel.length rc2, .slice ta2 m.tr.length tc2]), fun v _ => v = (.agg #[.int .i64 m.n, .slice ra m.rel.length rc, .slice ta m.tr.length tc]), fun v _ => v = (.bool true), fun v _ => v = (.bool false), fun v _ => v = (.bool false), fun v _ => v = (.agg #[.int .i64 0, .int .i64 0]), fun v _ => v = (.agg #[.int .i64 0, .int .i64 0]), fun v _ => v = (.bool false), fun v _ => v = (.bool false), fun v _ => v = (.bool false), fun v _ => v = (.pointer (some ⟨w7.heap.size, 0, none⟩)), fun v _ => v = (.int .i64 0), fun v _ => v = (.bool false), fun v _ => v = (.bool false), fun _ _ => True, fun _ _ => True, fun _ _ => True, fun v _ => v = (.bool false), fun v _ => v = (.bool false), fun v _ => v = (.bool false), fun v _ => v = (.pointer (some ⟨w7.heap.size, 0, none⟩)), fun v _ => v = (.int .i64 0), fun v _ => v = (.bool true), fun v _ => v = (.bool true), fun v _ => v = (.agg #[.bool s0, .bool s1, .bool s2, .bool s3, .bool s4, .bool s5]), fun v _ => v = (.agg #[.int .i64 m.n, .slice ra m.rel.length rc, .slice ta m.tr.length tc]), fun v _ => v = (.agg #[.bool s0, .bool s1, .bool s2, .bool s3, .bool s4, .bool s5]), fun v _ => v = (.bool false), fun v _ => v = (.bool false), fun v _ => v = (.bool false)] ?_ (by kernel_rfl) (by kernel_rfl) 143 rfl (by kernel_rfl) ?_ ?_)
  · intro p hp
    simp only [List.mem_cons, List.not_mem_nil, or_false] at hp
    rcases hp with rfl | rfl | rfl | rfl | rfl | rfl | rfl | rfl | rfl | rfl | rfl | rfl | rfl | rfl | rfl | rfl | rfl | rfl | rfl | rfl | rfl | rfl | rfl | rfl | rfl | rfl | rfl | rfl | rfl | rfl
    · exact fun _ _ _ h _ => h
    · exact fun _ _ _ h _ => h
    · exact fun _ _ _ h _ => h
    · exact fun _ _ _ h _ => h
    · exact fun _ _ _ h _ => h
    · exact fun _ _ _ h _ => h
    · exact fun _ _ _ h _ => h
    · exact fun _ _ _ h _ => h
    · exact fun _ _ _ h _ => h
    · exact fun _ _ _ h _ => h
    · exact fun _ _ _ h _ => h
    · exact fun _ _ _ h _ => h
    · exact fun _ _ _ h _ => h
    · exact fun _ _ _ h _ => h
    · exact fun _ _ _ h _ => h
    · exact fun _ _ _ h _ => h
    · exact fun _ _ _ h _ => h
    · exact fun _ _ _ h _ => h
    · exact fun _ _ _ h _ => h
    · exact fun _ _ _ h _ => h
    · exact fun _ _ _ h _ => h
    · exact fun _ _ _ h _ => h
    · exact fun _ _ _ h _ => h
    · exact fun _ _ _ h _ => h
    · exact fun _ _ _ h _ => h
    · exact fun _ _ _ h _ => h
    · exact fun _ _ _ h _ => h
    · exact fun _ _ _ h _ => h
    · exact fun _ _ _ h _ => h
    · exact fun _ _ _ h _ => h
  · refine ⟨?_, ?_, ?_, ?_, ?_, ?_, ?_, ?_, ?_, ?_, ?_, ?_, ?_, ?_, ?_, ?_, ?_, ?_, ?_, ?_, ?_, ?_, ?_, ?_, ?_, ?_, ?_, ?_, ?_, ?_, trivial⟩
    · intro a wx hB hold hdep K hK
      have t5 : a.tmps[5]? = some (.pointer (some ⟨w3.heap.size, 0, none⟩)) := hold.2.2 5 rfl; obtain ⟨q0, q1, q2, -⟩ := blk3 (below_keep hB HYn.out); clear hold hdep; go_simp; exact hK.out _ _ rfl (Below.refl _ _)
    · intro a wx hB hold hdep K hK
      have t2 : a.tmps[2]? = some (.pointer (some ⟨w.heap.size, 0, none⟩)) := hold.2.2 2 rfl; obtain ⟨q0, q1, q2, -⟩ := blk3 (below_keep hB HYm.out); clear hold hdep; go_simp; exact hK.out _ _ rfl (Below.refl _ _)
    · intro a wx hB hold hdep K hK
      obtain ⟨v38, t38, p38⟩ := hdep 0 rfl _ 38 rfl rfl; have e38 : v38 = (.agg #[.int .i64 m.n, .slice ra2 m.rel.length rc2, .slice ta2 m.tr.length tc2]) := p38; subst e38; obtain ⟨v39, t39, p39⟩ := hdep 1 rfl _ 39 rfl rfl; have e39 : v39 = (.agg #[.int .i64 m.n, .slice ra m.rel.length rc, .slice ta m.tr.length tc]) := p39; subst e39; have HW : Hid (Calls Try.prog 15 #[.agg #[.int .i64 m.n, .slice ra2 m.rel.length rc2, .slice ta2 m.tr.length tc2], .agg #[.int .i64 m.n, .slice ra m.rel.length rc, .slice ta m.tr.length tc]] wx _) := HSm.out _ _ _ (HYx.out.up hB) (HYr.out.up hB); clear hold hdep; go_simp; refine HW.out.mono ?_; rintro _ w9 ⟨rfl, hb9⟩; go_simp; exact hK.out _ _ rfl hb9
    · intro a wx hB hold hdep K hK
      obtain ⟨v40, t40, p40⟩ := hdep 2 rfl _ 40 rfl rfl; have e40 : v40 = (.bool true) := p40; subst e40; clear hold hdep; go_simp; exact hK.out _ _ rfl (Below.refl _ _)
    · intro a wx hB hold hdep K hK
      obtain ⟨v41, t41, p41⟩ := hdep 3 rfl _ 41 rfl rfl; have e41 : v41 = (.bool false) := p41; subst e41; clear hold hdep; go_simp; exact hK.out _ _ rfl (Below.refl _ _)
    · intro a wx hB hold hdep K hK
      obtain ⟨v42, t42, p42⟩ := hdep 4 rfl _ 42 rfl rfl; have e42 : v42 = (.bool false) := p42; subst e42; have t11 : a.tmps[11]? = some (.pointer (some ⟨w6.heap.size + 1, 0, none⟩)) := hold.2.2 11 rfl; obtain ⟨q0, q1, -⟩ := blk2 (below_keep hB HY3.out); clear hold hdep; go_simp; exact hK.out _ _ rfl (Below.refl _ _)
    · intro a wx hB hold hdep K hK
      obtain ⟨v42, t42, p42⟩ := hdep 4 rfl _ 42 rfl rfl; have e42 : v42 = (.bool false) := p42; subst e42; have t12 : a.tmps[12]? = some (.pointer (some ⟨w7.heap.size, 0, none⟩)) := hold.2.2 12 rfl; obtain ⟨q0, q1, -⟩ := blk2 (below_keep hB HYw.out); clear hold hdep; go_simp; exact hK.out _ _ rfl (Below.refl _ _)
    · intro a wx hB hold hdep K hK
      obtain ⟨v42, t42, p42⟩ := hdep 4 rfl _ 42 rfl rfl; have e42 : v42 = (.bool false) := p42; subst e42; obtain ⟨v43, t43, p43⟩ := hdep 5 rfl _ 43 rfl rfl; have e43 : v43 = (.agg #[.int .i64 0, .int .i64 0]) := p43; subst e43; obtain ⟨v44, t44, p44⟩ := hdep 6 rfl _ 44 rfl rfl; have e44 : v44 = (.agg #[.int .i64 0, .int .i64 0]) := p44; subst e44; clear hold hdep; go_simp; exact hK.out _ _ rfl (Below.refl _ _)
    · intro a wx hB hold hdep K hK
      obtain ⟨v42, t42, p42⟩ := hdep 4 rfl _ 42 rfl rfl; have e42 : v42 = (.bool false) := p42; subst e42; obtain ⟨v45, t45, p45⟩ := hdep 7 rfl _ 45 rfl rfl; have e45 : v45 = (.bool false) := p45; subst e45; clear hold hdep; go_simp; exact hK.out _ _ rfl (Below.refl _ _)
    · intro a wx hB hold hdep K hK
      obtain ⟨v46, t46, p46⟩ := hdep 8 rfl _ 46 rfl rfl; have e46 : v46 = (.bool false) := p46; subst e46; clear hold hdep; go_simp; exact hK.out _ _ rfl (Below.refl _ _)
    · intro a wx hB hold hdep K hK
      obtain ⟨v47, t47, p47⟩ := hdep 9 rfl _ 47 rfl rfl; have e47 : v47 = (.bool false) := p47; subst e47; have t12 : a.tmps[12]? = some (.pointer (some ⟨w7.heap.size, 0, none⟩)) := hold.2.2 12 rfl; clear hold hdep; go_simp; exact hK.out _ _ rfl (Below.refl _ _)
    · intro a wx hB hold hdep K hK
      obtain ⟨v47, t47, p47⟩ := hdep 9 rfl _ 47 rfl rfl; have e47 : v47 = (.bool false) := p47; subst e47; obtain ⟨v48, t48, p48⟩ := hdep 10 rfl _ 48 rfl rfl; have e48 : v48 = (.pointer (some ⟨w7.heap.size, 0, none⟩)) := p48; subst e48; obtain ⟨q0, q1, -⟩ := blk2 (below_keep hB HYw.out); clear hold hdep; go_simp; exact hK.out _ _ rfl (Below.refl _ _)
    · intro a wx hB hold hdep K hK
      obtain ⟨v47, t47, p47⟩ := hdep 9 rfl _ 47 rfl rfl; have e47 : v47 = (.bool false) := p47; subst e47; obtain ⟨v49, t49, p49⟩ := hdep 11 rfl _ 49 rfl rfl; have e49 : v49 = (.int .i64 0) := p49; subst e49; have h9 := hcn; clear hold hdep; go_simp; exact hK.out _ _ rfl (Below.refl _ _)
    · intro a wx hB hold hdep K hK
      obtain ⟨v47, t47, p47⟩ := hdep 9 rfl _ 47 rfl rfl; have e47 : v47 = (.bool false) := p47; subst e47; obtain ⟨v50, t50, p50⟩ := hdep 12 rfl _ 50 rfl rfl; have e50 : v50 = (.bool false) := p50; subst e50; clear hold hdep; go_simp; exact hK.out _ _ rfl (Below.refl _ _)
    · intro a wx hB hold hdep K hK
      obtain ⟨v51, t51, p51⟩ := hdep 13 rfl _ 51 rfl rfl; have e51 : v51 = (.bool false) := p51; subst e51; clear hold hdep; go_simp; exact hK.out _ _ trivial (Below.refl _ _)
    · intro a wx hB hold hdep K hK
      obtain ⟨v51, t51, p51⟩ := hdep 13 rfl _ 51 rfl rfl; have e51 : v51 = (.bool false) := p51; subst e51; clear hold hdep; go_simp; exact hK.out _ _ trivial (Below.refl _ _)
    · intro a wx hB hold hdep K hK
      obtain ⟨v51, t51, p51⟩ := hdep 13 rfl _ 51 rfl rfl; have e51 : v51 = (.bool false) := p51; subst e51; clear hold hdep; go_simp; exact hK.out _ _ trivial (Below.refl _ _)
    · intro a wx hB hold hdep K hK
      obtain ⟨v47, t47, p47⟩ := hdep 9 rfl _ 47 rfl rfl; have e47 : v47 = (.bool false) := p47; subst e47; obtain ⟨v51, t51, p51⟩ := hdep 13 rfl _ 51 rfl rfl; have e51 : v51 = (.bool false) := p51; subst e51; clear hold hdep; go_simp; exact hK.out _ _ rfl (Below.refl _ _)
    · intro a wx hB hold hdep K hK
      obtain ⟨v47, t47, p47⟩ := hdep 9 rfl _ 47 rfl rfl; have e47 : v47 = (.bool false) := p47; subst e47; obtain ⟨v55, t55, p55⟩ := hdep 17 rfl _ 55 rfl rfl; have e55 : v55 = (.bool false) := p55; subst e55; clear hold hdep; go_simp; exact hK.out _ _ rfl (Below.refl _ _)
    · intro a wx hB hold hdep K hK
      obtain ⟨v56, t56, p56⟩ := hdep 18 rfl _ 56 rfl rfl; have e56 : v56 = (.bool false) := p56; subst e56; clear hold hdep; go_simp; exact hK.out _ _ rfl (Below.refl _ _)
    · intro a wx hB hold hdep K hK
      obtain ⟨v57, t57, p57⟩ := hdep 19 rfl _ 57 rfl rfl; have e57 : v57 = (.bool false) := p57; subst e57; have t12 : a.tmps[12]? = some (.pointer (some ⟨w7.heap.size, 0, none⟩)) := hold.2.2 12 rfl; clear hold hdep; go_simp; exact hK.out _ _ rfl (Below.refl _ _)
    · intro a wx hB hold hdep K hK
      obtain ⟨v57, t57, p57⟩ := hdep 19 rfl _ 57 rfl rfl; have e57 : v57 = (.bool false) := p57; subst e57; obtain ⟨v58, t58, p58⟩ := hdep 20 rfl _ 58 rfl rfl; have e58 : v58 = (.pointer (some ⟨w7.heap.size, 0, none⟩)) := p58; subst e58; obtain ⟨q0, q1, -⟩ := blk2 (below_keep hB HYw.out); clear hold hdep; go_simp; exact hK.out _ _ rfl (Below.refl _ _)
    · intro a wx hB hold hdep K hK
      obtain ⟨v57, t57, p57⟩ := hdep 19 rfl _ 57 rfl rfl; have e57 : v57 = (.bool false) := p57; subst e57; obtain ⟨v59, t59, p59⟩ := hdep 21 rfl _ 59 rfl rfl; have e59 : v59 = (.int .i64 0) := p59; subst e59; have h9 := hce; clear hold hdep; go_simp; exact hK.out _ _ rfl (Below.refl _ _)
    · intro a wx hB hold hdep K hK
      obtain ⟨v57, t57, p57⟩ := hdep 19 rfl _ 57 rfl rfl; have e57 : v57 = (.bool false) := p57; subst e57; obtain ⟨v60, t60, p60⟩ := hdep 22 rfl _ 60 rfl rfl; have e60 : v60 = (.bool true) := p60; subst e60; clear hold hdep; go_simp; exact hK.out _ _ rfl (Below.refl _ _)
    · intro a wx hB hold hdep K hK
      obtain ⟨v61, t61, p61⟩ := hdep 23 rfl _ 61 rfl rfl; have e61 : v61 = (.bool true) := p61; subst e61; have t10 : a.tmps[10]? = some (.pointer (some ⟨w6.heap.size, 0, none⟩)) := hold.2.2 10 rfl; obtain ⟨q0, q1, q2, q3, q4, q5⟩ := blk6M (below_keep hB HYs.out); clear hold hdep; go_simp; exact hK.out _ _ rfl (Below.refl _ _)
    · intro a wx hB hold hdep K hK
      obtain ⟨v61, t61, p61⟩ := hdep 23 rfl _ 61 rfl rfl; have e61 : v61 = (.bool true) := p61; subst e61; have t2 : a.tmps[2]? = some (.pointer (some ⟨w.heap.size, 0, none⟩)) := hold.2.2 2 rfl; obtain ⟨q0, q1, q2, -⟩ := blk3 (below_keep hB HYm.out); clear hold hdep; go_simp; exact hK.out _ _ rfl (Below.refl _ _)
    · intro a wx hB hold hdep K hK
      obtain ⟨v61, t61, p61⟩ := hdep 23 rfl _ 61 rfl rfl; have e61 : v61 = (.bool true) := p61; subst e61; obtain ⟨v63, t63, p63⟩ := hdep 25 rfl _ 63 rfl rfl; have e63 : v63 = (.agg #[.int .i64 m.n, .slice ra m.rel.length rc, .slice ta m.tr.length tc]) := p63; subst e63; have HW : Hid (Calls Try.prog 16 #[.agg #[.int .i64 m.n, .slice ra m.rel.length rc, .slice ta m.tr.length tc]] wx _) := HSo.out _ _ (HYr.out.up hB); clear hold hdep; go_simp; refine HW.out.mono ?_; rintro _ w9 ⟨rfl, hb9⟩; go_simp; exact hK.out _ _ rfl hb9
    · intro a wx hB hold hdep K hK
      obtain ⟨v61, t61, p61⟩ := hdep 23 rfl _ 61 rfl rfl; have e61 : v61 = (.bool true) := p61; subst e61; obtain ⟨v62, t62, p62⟩ := hdep 24 rfl _ 62 rfl rfl; have e62 : v62 = (.agg #[.bool s0, .bool s1, .bool s2, .bool s3, .bool s4, .bool s5]) := p62; subst e62; obtain ⟨v64, t64, p64⟩ := hdep 26 rfl _ 64 rfl rfl; have e64 : v64 = (.agg #[.bool s0, .bool s1, .bool s2, .bool s3, .bool s4, .bool s5]) := p64; subst e64; have hpn := six_neq s0 s1 s2 s3 s4 s5; have hpg := six_guard; clear hold hdep; go_simp; exact hK.out _ _ rfl (Below.refl _ _)
    · intro a wx hB hold hdep K hK
      obtain ⟨v57, t57, p57⟩ := hdep 19 rfl _ 57 rfl rfl; have e57 : v57 = (.bool false) := p57; subst e57; obtain ⟨v61, t61, p61⟩ := hdep 23 rfl _ 61 rfl rfl; have e61 : v61 = (.bool true) := p61; subst e61; obtain ⟨v65, t65, p65⟩ := hdep 27 rfl _ 65 rfl rfl; have e65 : v65 = (.bool false) := p65; subst e65; clear hold hdep; go_simp; exact hK.out _ _ rfl (Below.refl _ _)
    · intro a wx hB hold hdep K hK
      obtain ⟨v57, t57, p57⟩ := hdep 19 rfl _ 57 rfl rfl; have e57 : v57 = (.bool false) := p57; subst e57; obtain ⟨v66, t66, p66⟩ := hdep 28 rfl _ 66 rfl rfl; have e66 : v66 = (.bool false) := p66; subst e66; clear hold hdep; go_simp; exact hK.out _ _ rfl (Below.refl _ _)
  · intro a wx hB hold hgot
    obtain ⟨vZ, tvZ, pvZ⟩ := hgot 29 _ 67 rfl rfl; have evZ : vZ = (.bool false) := pvZ; subst evZ; have HBx : Hid (Below Y.heap.size Y wx) := hB; obtain ⟨tm, df⟩ := a; (obtain ⟨ys, hys, htm, rfl⟩ := frame_mid2 38 30 (by kernel_rfl) (Nat.le_of_ble_eq_true rfl) hold); obtain ⟨x38, x39, x40, x41, x42, x43, x44, x45, x46, x47, x48, x49, x50, x51, x52, x53, x54, x55, x56, x57, x58, x59, x60, x61, x62, x63, x64, x65, x66, x67, rfl⟩ := rowE30 ys hys; simp only [List.take_succ_cons, List.take_zero, List.drop_succ_cons, List.drop_zero, List.cons_append, List.nil_append] at htm; subst htm; obtain rfl : x67 = _ := someInjM tvZ; clear hys hold hgot tvZ hB; obtain ⟨g0, g1, gg0, gg1⟩ := blk2 (below_keep HBx.out HYw.out); obtain ⟨a0, a1, a2, -⟩ := blk3 (below_keep HBx.out HYf.out); go_wp2_with fail; refine (HFf.out _ _ (HYp.out.up HBx.out)).mono ?_; rintro _ w8 ⟨rfl, hb8⟩; have HB8 : Hid (Below Y.heap.size Y w8) := below_join HBx.out hb8; have HG8 : Hid (w8.heap[w7.heap.size]? = some (.cells #[.int .i64 0, .int .i64 0] 34 (0, 0))) := below_keep HB8.out HYw.out; clear hb8 g0 g1 gg0 gg1 a0 a1 a2 HBx; obtain ⟨z0, z1, z2, z3⟩ := blk2 HG8.out; obtain ⟨Z, hZ⟩ : ∃ Z, Z = (w8.setCell ⟨w7.heap.size, 0, none⟩ (.int .i64 c1)).setCell ⟨w7.heap.size, 1, none⟩ (.int .i64 d1) := ⟨_, rfl⟩; (have hfar : ∀ q, q ≠ w7.heap.size → Z.heap[q]? = w8.heap[q]? := fun q hq => by rw [hZ, farM hq, farM hq]); (have HZw : Hid (Z.heap[w7.heap.size]? = some (.cells #[.int .i64 c1, .int .i64 d1] 34 (0, 0))) := by rw [hZ]; exact set2 HG8.out _ _); have h3 := H37.out; have h6 := H67.out; (have HZm : Hid (Z.heap[w.heap.size]? = some (.cells #[.int .i64 m.n, .slice ra m.rel.length rc, .slice ta m.tr.length tc] 25 (0, 0))) := (hfar _ (by omega)).trans (below_keep HB8.out HYm.out)); (have HZf : Hid (Z.heap[w.heap.size + 1]? = some (.cells #[.int .i64 k, .string n, .slice sl ks.length cap] 28 (0, 0))) := (hfar _ (by omega)).trans (below_keep HB8.out HYf.out)); (have HZ1 : Hid (Z.heap[w4.heap.size]? = some (.cells #[.int .i64 c1, .int .i64 d1] 34 (0, 0))) := (hfar _ (by omega)).trans (below_keep HB8.out HY1.out)); (have HZ2 : Hid (Z.heap[w5.heap.size]? = some (.cells #[.int .i64 c2, .int .i64 d2] 34 (0, 0))) := (hfar _ (by omega)).trans (below_keep HB8.out HY2.out)); (have HZL : Hid (BL Z x1 L1) := by rw [hZ]; exact BL.off2 (HYL.out.up HB8.out) HG8.out _ _); (have HZB : Hid (Below w.heap.size w Z) := by rw [hZ]; exact ((below_join HYB.out HB8.out).setCell (p := ⟨w7.heap.size, 0, none⟩) (by show w.heap.size ≤ w7.heap.size; omega) _).setCell (p := ⟨w7.heap.size, 1, none⟩) (by show w.heap.size ≤ w7.heap.size; omega) _); have hZe := hZ.symm; clear hZ hfar h3 h6; by_cases hc : c1 = 0
    case neg =>
      (have hcn : (c1 != 0) = true := by simpa using hc); (have hce : (c1 == 0) = false := by simpa using hc); obtain ⟨h2, rfl⟩ := HHs.out.1 hc; (obtain ⟨rfl, rfl⟩ : c1 = c2 ∧ d1 = d2 := by simpa using h2); obtain rfl : L1 = [] := HL0.out hc; clear h2 hc HOk HSo HFz HHs HL0 HL9; obtain ⟨e0, e1, -⟩ := blk2 HZ1.out; obtain ⟨g0, g1, -⟩ := blk2 HZw.out; obtain ⟨adL, cpL, rfl, -⟩ := HZL.out; go_wp2_with fail; clear e0 e1 g0 g1; (refine wp_region_free (by kernel_rfl) [fun v _ => v = (.pointer (some ⟨w7.heap.size, 0, none⟩)), fun v _ => v = (.int .i64 c1), fun v _ => v = (.bool false), fun v _ => v = (.bool false), fun _ _ => True, fun _ _ => True, fun _ _ => True, fun _ _ => True, fun _ _ => True, fun _ _ => True, fun _ _ => True, fun _ _ => True, fun v _ => v = (.bool false)] ?_ (by kernel_rfl) (by kernel_rfl) 143 rfl (by kernel_rfl) ?_ ?_)
      · intro p hp
        simp only [List.mem_cons, List.not_mem_nil, or_false] at hp
        rcases hp with rfl | rfl | rfl | rfl | rfl | rfl | rfl | rfl | rfl | rfl | rfl | rfl | rfl
        · exact fun _ _ _ h _ => h
        · exact fun _ _ _ h _ => h
        · exact fun _ _ _ h _ => h
        · exact fun _ _ _ h _ => h
        · exact fun _ _ _ h _ => h
        · exact fun _ _ _ h _ => h
        · exact fun _ _ _ h _ => h
        · exact fun _ _ _ h _ => h
        · exact fun _ _ _ h _ => h
        · exact fun _ _ _ h _ => h
        · exact fun _ _ _ h _ => h
        · exact fun _ _ _ h _ => h
        · exact fun _ _ _ h _ => h
      · refine ⟨?_, ?_, ?_, ?_, ?_, ?_, ?_, ?_, ?_, ?_, ?_, ?_, ?_, trivial⟩
        · intro a wx hB hold hdep K hK
          have t12 : a.tmps[12]? = some (.pointer (some ⟨w7.heap.size, 0, none⟩)) := hold.2.2 12 rfl; clear hold hdep; go_simp; exact hK.out _ _ rfl (Below.refl _ _)
        · intro a wx hB hold hdep K hK
          obtain ⟨v99, t99, p99⟩ := hdep 0 rfl _ 99 rfl rfl; have e99 : v99 = (.pointer (some ⟨w7.heap.size, 0, none⟩)) := p99; subst e99; obtain ⟨q0, q1, -⟩ := blk2 (below_keep hB HZw.out); clear hold hdep; go_simp; exact hK.out _ _ rfl (Below.refl _ _)
        · intro a wx hB hold hdep K hK
          obtain ⟨v100, t100, p100⟩ := hdep 1 rfl _ 100 rfl rfl; have e100 : v100 = (.int .i64 c1) := p100; subst e100; have h9 := hce; clear hold hdep; go_simp; exact hK.out _ _ rfl (Below.refl _ _)
        · intro a wx hB hold hdep K hK
          obtain ⟨v101, t101, p101⟩ := hdep 2 rfl _ 101 rfl rfl; have e101 : v101 = (.bool false) := p101; subst e101; clear hold hdep; go_simp; exact hK.out _ _ rfl (Below.refl _ _)
        · intro a wx hB hold hdep K hK
          obtain ⟨v102, t102, p102⟩ := hdep 3 rfl _ 102 rfl rfl; have e102 : v102 = (.bool false) := p102; subst e102; clear hold hdep; go_simp; exact hK.out _ _ trivial (Below.refl _ _)
        · intro a wx hB hold hdep K hK
          obtain ⟨v102, t102, p102⟩ := hdep 3 rfl _ 102 rfl rfl; have e102 : v102 = (.bool false) := p102; subst e102; clear hold hdep; go_simp; exact hK.out _ _ trivial (Below.refl _ _)
        · intro a wx hB hold hdep K hK
          obtain ⟨v102, t102, p102⟩ := hdep 3 rfl _ 102 rfl rfl; have e102 : v102 = (.bool false) := p102; subst e102; clear hold hdep; go_simp; exact hK.out _ _ trivial (Below.refl _ _)
        · intro a wx hB hold hdep K hK
          obtain ⟨v102, t102, p102⟩ := hdep 3 rfl _ 102 rfl rfl; have e102 : v102 = (.bool false) := p102; subst e102; clear hold hdep; go_simp; exact hK.out _ _ trivial (Below.refl _ _)
        · intro a wx hB hold hdep K hK
          obtain ⟨v102, t102, p102⟩ := hdep 3 rfl _ 102 rfl rfl; have e102 : v102 = (.bool false) := p102; subst e102; clear hold hdep; go_simp; exact hK.out _ _ trivial (Below.refl _ _)
        · intro a wx hB hold hdep K hK
          obtain ⟨v102, t102, p102⟩ := hdep 3 rfl _ 102 rfl rfl; have e102 : v102 = (.bool false) := p102; subst e102; clear hold hdep; go_simp; exact hK.out _ _ trivial (Below.refl _ _)
        · intro a wx hB hold hdep K hK
          obtain ⟨v102, t102, p102⟩ := hdep 3 rfl _ 102 rfl rfl; have e102 : v102 = (.bool false) := p102; subst e102; clear hold hdep; go_simp; exact hK.out _ _ trivial (Below.refl _ _)
        · intro a wx hB hold hdep K hK
          obtain ⟨v102, t102, p102⟩ := hdep 3 rfl _ 102 rfl rfl; have e102 : v102 = (.bool false) := p102; subst e102; clear hold hdep; go_simp; exact hK.out _ _ trivial (Below.refl _ _)
        · intro a wx hB hold hdep K hK
          obtain ⟨v102, t102, p102⟩ := hdep 3 rfl _ 102 rfl rfl; have e102 : v102 = (.bool false) := p102; subst e102; clear hold hdep; go_simp; exact hK.out _ _ rfl (Below.refl _ _)
      · intro a wx hB hold hgot
        obtain ⟨vZ, tvZ, pvZ⟩ := hgot 12 _ 111 rfl rfl; have evZ : vZ = (.bool false) := pvZ; subst evZ; have HBx : Hid (Below Z.heap.size Z wx) := hB; obtain ⟨tm, df⟩ := a; (obtain ⟨ys, hys, htm, rfl⟩ := frame_mid2 99 13 (by kernel_rfl) (Nat.le_of_ble_eq_true rfl) hold); obtain ⟨x99, x100, x101, x102, x103, x104, x105, x106, x107, x108, x109, x110, x111, rfl⟩ := rowE13 ys hys; simp only [List.take_succ_cons, List.take_zero, List.drop_succ_cons, List.drop_zero, List.cons_append, List.nil_append] at htm; subst htm; obtain rfl : x111 = _ := someInjM tvZ; clear hys hold hgot tvZ hB; obtain ⟨e0, e1, -⟩ := blk2 (below_keep HBx.out HZ2.out); obtain ⟨g0, g1, -⟩ := blk2 (below_keep HBx.out HZw.out); go_wp2_with fail; go_ret; exact ⟨rfl, below_join HZB.out HBx.out⟩
    subst hc; obtain rfl : d1 = 0 := HFz.out rfl; obtain ⟨N, NL, hn, hnl, hN, hNL, hNe, HAa, HNa, HEw⟩ := HOk.out rfl; have hhs := HHs.out.2 rfl; rw [hnl] at hhs; have HHt : Hid _ := hhs; clear hhs HHs; obtain rfl : L1 = LE := HL9.out rfl; (have HAa : Hid (∀ v u W, MR W m v → Rep W (fun _ => True) (.mk k n ks) u → Calls Try.prog 19 #[v, u] W _) := HAa); have HNa : Hid (∀ v W, FL W v [.mk k n ks] → Calls Try.prog 20 #[v] W _) := HNa; (have HEw : Hid (N * NL.length ≤ 8 → ∀ v u W, MR W m v → Rep W (fun _ => True) (.mk k n ks) u → Calls Try.prog 22 #[v, u] W _) := HEw); have HNn : Hid (m.n = (N : Int)) := hn; have HN40 : Hid (N ≤ 40 ∧ NL.length ≤ 200) := ⟨hN, hNL⟩; clear hn hnl hN hNL hNe HOk HL0 HL9 HFz HSo; obtain ⟨e0, e1, -⟩ := blk2 HZ1.out; obtain ⟨g0, g1, -⟩ := blk2 HZw.out; obtain ⟨a0, a1, a2, -⟩ := blk3 HZf.out; obtain ⟨k0, k1, k2, -⟩ := blk3 HZm.out; go_wp2_with fail; refine (HAa.out _ _ _ (HRm.out.up HZB.out) (HRf.out.up HZB.out)).mono ?_; rintro _ w9 ⟨x9, rfl, hbl9, hb9⟩; have HL9 : Hid (BL w9 x9 L1) := hbl9; have HB9 : Hid (Below Z.heap.size Z w9) := hb9; clear hbl9 hb9 HAa hZe e0 e1 g0 g1 a0 a1 a2 k0 k1 k2 z0 z1 z2 z3; go_wp2_with fail; refine (HBi.out _ _ _ (HZL.out.up HB9.out) HL9.out).mono ?_; rintro _ w10 ⟨rfl, hb10⟩; have HBt : Hid (Below Z.heap.size Z w10) := below_join HB9.out hb10; have Htm : Hid (w10.heap[w.heap.size]? = some (.cells #[.int .i64 m.n, .slice ra m.rel.length rc, .slice ta m.tr.length tc] 25 (0, 0))) := below_keep HBt.out HZm.out; have Htf : Hid (w10.heap[w.heap.size + 1]? = some (.cells #[.int .i64 k, .string n, .slice sl ks.length cap] 28 (0, 0))) := below_keep HBt.out HZf.out; have Ht2 : Hid (w10.heap[w5.heap.size]? = some (.cells #[.int .i64 c2, .int .i64 d2] 34 (0, 0))) := below_keep HBt.out HZ2.out; have Htw : Hid (w10.heap[w7.heap.size]? = some (.cells #[.int .i64 0, .int .i64 0] 34 (0, 0))) := below_keep HBt.out HZw.out; have HtB : Hid (Below w.heap.size w w10) := below_join HZB.out HBt.out; clear hb10 HB9 HL9 HBi HZL HZm HZf HZ1 HZ2 HZw HZB HBt HB8 HG8; obtain ⟨nn, hnn⟩ : ∃ nn, nn = N * NL.length := ⟨_, rfl⟩
    have HMul : Hid (IntKind.i64.wrap (m.n * (NL.length : Int)) = ((nn : Nat) : Int)) := by
      show _ = _; rw [HNn.out, hnn]; have h1 : N * NL.length ≤ 40 * 200 := Nat.mul_le_mul HN40.out.1 HN40.out.2; (rw [show ((N : Int) * (NL.length : Int)) = ((N * NL.length : Nat) : Int) by simp]); (exact wrap_small _ (by omega))
    rw [← hnn] at HHt HEw; clear hnn HN40; go_wp2_with fail; by_cases h12 : 12 < nn
    case pos =>
      obtain ⟨rfl, rfl, rfl⟩ := HHt.out.1 h12; (have hgt : decide ((12 : Int) < (nn : Int)) = true := decide_eq_true (by omega)); clear HHt HEw; (refine wp_region_free (by kernel_rfl) [fun v _ => v = (.pointer (some ⟨w7.heap.size, 0, none⟩)), fun v _ => v = (.int .i64 0), fun v _ => v = (.bool true), fun v _ => v = (.bool true), fun v _ => v = (.pointer (some ⟨w.heap.size, 0, none⟩)), fun v _ => v = (.int .i64 m.n), fun v _ => v = (.agg #[.int .i64 k, .string n, .slice sl ks.length cap]), kFl (.mk k n ks), kTl NL, fun v _ => v = (.int .i64 (NL.length : Nat)), fun v _ => v = (.int .i64 (nn : Nat)), fun v _ => v = (.bool true), fun v _ => v = (.bool true)] ?_ (by kernel_rfl) (by kernel_rfl) 143 rfl (by kernel_rfl) ?_ ?_)
      · intro p hp
        simp only [List.mem_cons, List.not_mem_nil, or_false] at hp
        rcases hp with rfl | rfl | rfl | rfl | rfl | rfl | rfl | rfl | rfl | rfl | rfl | rfl | rfl
        · exact fun _ _ _ h _ => h
        · exact fun _ _ _ h _ => h
        · exact fun _ _ _ h _ => h
        · exact fun _ _ _ h _ => h
        · exact fun _ _ _ h _ => h
        · exact fun _ _ _ h _ => h
        · exact fun _ _ _ h _ => h
        · exact kFl_stays _
        · exact kTl_stays _
        · exact fun _ _ _ h _ => h
        · exact fun _ _ _ h _ => h
        · exact fun _ _ _ h _ => h
        · exact fun _ _ _ h _ => h
      · refine ⟨?_, ?_, ?_, ?_, ?_, ?_, ?_, ?_, ?_, ?_, ?_, ?_, ?_, trivial⟩
        · intro a wx hB hold hdep K hK
          have t12 : a.tmps[12]? = some (.pointer (some ⟨w7.heap.size, 0, none⟩)) := hold.2.2 12 rfl; clear hold hdep; go_simp; exact hK.out _ _ rfl (Below.refl _ _)
        · intro a wx hB hold hdep K hK
          obtain ⟨v99, t99, p99⟩ := hdep 0 rfl _ 99 rfl rfl; have e99 : v99 = (.pointer (some ⟨w7.heap.size, 0, none⟩)) := p99; subst e99; obtain ⟨q0, q1, -⟩ := blk2 (below_keep hB Htw.out); clear hold hdep; go_simp; exact hK.out _ _ rfl (Below.refl _ _)
        · intro a wx hB hold hdep K hK
          obtain ⟨v100, t100, p100⟩ := hdep 1 rfl _ 100 rfl rfl; have e100 : v100 = (.int .i64 0) := p100; subst e100; clear hold hdep; go_simp; exact hK.out _ _ rfl (Below.refl _ _)
        · intro a wx hB hold hdep K hK
          obtain ⟨v101, t101, p101⟩ := hdep 2 rfl _ 101 rfl rfl; have e101 : v101 = (.bool true) := p101; subst e101; clear hold hdep; go_simp; exact hK.out _ _ rfl (Below.refl _ _)
        · intro a wx hB hold hdep K hK
          obtain ⟨v102, t102, p102⟩ := hdep 3 rfl _ 102 rfl rfl; have e102 : v102 = (.bool true) := p102; subst e102; have t2 : a.tmps[2]? = some (.pointer (some ⟨w.heap.size, 0, none⟩)) := hold.2.2 2 rfl; clear hold hdep; go_simp; exact hK.out _ _ rfl (Below.refl _ _)
        · intro a wx hB hold hdep K hK
          obtain ⟨v102, t102, p102⟩ := hdep 3 rfl _ 102 rfl rfl; have e102 : v102 = (.bool true) := p102; subst e102; obtain ⟨v103, t103, p103⟩ := hdep 4 rfl _ 103 rfl rfl; have e103 : v103 = (.pointer (some ⟨w.heap.size, 0, none⟩)) := p103; subst e103; obtain ⟨q0, q1, q2, -⟩ := blk3 (below_keep hB Htm.out); clear hold hdep; go_simp; exact hK.out _ _ rfl (Below.refl _ _)
        · intro a wx hB hold hdep K hK
          obtain ⟨v102, t102, p102⟩ := hdep 3 rfl _ 102 rfl rfl; have e102 : v102 = (.bool true) := p102; subst e102; have t3 : a.tmps[3]? = some (.pointer (some ⟨w.heap.size + 1, 0, none⟩)) := hold.2.2 3 rfl; obtain ⟨q0, q1, q2, -⟩ := blk3 (below_keep hB Htf.out); clear hold hdep; go_simp; exact hK.out _ _ rfl (Below.refl _ _)
        · intro a wx hB hold hdep K hK
          obtain ⟨v102, t102, p102⟩ := hdep 3 rfl _ 102 rfl rfl; have e102 : v102 = (.bool true) := p102; subst e102; obtain ⟨v105, t105, p105⟩ := hdep 6 rfl _ 105 rfl rfl; have e105 : v105 = (.agg #[.int .i64 k, .string n, .slice sl ks.length cap]) := p105; subst e105; (have HRp : Hid (Rep wx (fun _ => True) (.mk k n ks) (.agg #[.int .i64 k, .string n, .slice sl ks.length cap])) := HRf.out.up (below_join HtB.out hB)); clear hold hdep; go_simp; exact hK.out _ _ (FL.sing (T := 28) (blk_new _ _) (HRp.out.up (below_more (Below.refl _ _) _))) (below_more (Below.refl _ _) _)
        · intro a wx hB hold hdep K hK
          obtain ⟨v102, t102, p102⟩ := hdep 3 rfl _ 102 rfl rfl; have e102 : v102 = (.bool true) := p102; subst e102; obtain ⟨v106, t106, p106⟩ := hdep 7 rfl _ 106 rfl rfl; have P106 : Hid ((kFl (.mk k n ks)) v106 wx) := p106; clear p106; have HW : Hid (Calls Try.prog 20 #[v106] wx _) := HNa.out _ _ P106.out; clear hold hdep; go_simp; refine HW.out.mono ?_; rintro _ w9 ⟨x9, rfl, hr9, hb9⟩; have H9 : Hid (TL w9 x9 NL) := hr9; clear hr9; go_simp; exact hK.out _ _ H9.out hb9
        · intro a wx hB hold hdep K hK
          obtain ⟨v102, t102, p102⟩ := hdep 3 rfl _ 102 rfl rfl; have e102 : v102 = (.bool true) := p102; subst e102; obtain ⟨v107, t107, p107⟩ := hdep 8 rfl _ 107 rfl rfl; have P107 : Hid ((kTl NL) v107 wx) := p107; clear p107; obtain ⟨ad9, cp9, rfl, -⟩ := P107.out; clear P107; clear hold hdep; go_simp; exact hK.out _ _ rfl (Below.refl _ _)
        · intro a wx hB hold hdep K hK
          obtain ⟨v102, t102, p102⟩ := hdep 3 rfl _ 102 rfl rfl; have e102 : v102 = (.bool true) := p102; subst e102; obtain ⟨v104, t104, p104⟩ := hdep 5 rfl _ 104 rfl rfl; have e104 : v104 = (.int .i64 m.n) := p104; subst e104; obtain ⟨v108, t108, p108⟩ := hdep 9 rfl _ 108 rfl rfl; have e108 : v108 = (.int .i64 (NL.length : Nat)) := p108; subst e108; have hw9 := HMul.out; clear hold hdep; go_simp; exact hK.out _ _ rfl (Below.refl _ _)
        · intro a wx hB hold hdep K hK
          obtain ⟨v102, t102, p102⟩ := hdep 3 rfl _ 102 rfl rfl; have e102 : v102 = (.bool true) := p102; subst e102; obtain ⟨v109, t109, p109⟩ := hdep 10 rfl _ 109 rfl rfl; have e109 : v109 = (.int .i64 (nn : Nat)) := p109; subst e109; have h9 := hgt; clear hold hdep; go_simp; exact hK.out _ _ rfl (Below.refl _ _)
        · intro a wx hB hold hdep K hK
          obtain ⟨v102, t102, p102⟩ := hdep 3 rfl _ 102 rfl rfl; have e102 : v102 = (.bool true) := p102; subst e102; obtain ⟨v110, t110, p110⟩ := hdep 11 rfl _ 110 rfl rfl; have e110 : v110 = (.bool true) := p110; subst e110; clear hold hdep; go_simp; exact hK.out _ _ rfl (Below.refl _ _)
      · intro a wx hB hold hgot
        obtain ⟨vZ, tvZ, pvZ⟩ := hgot 12 _ 111 rfl rfl; have evZ : vZ = (.bool true) := pvZ; subst evZ; have HBx : Hid (Below w10.heap.size w10 wx) := hB; obtain ⟨tm, df⟩ := a; (obtain ⟨ys, hys, htm, rfl⟩ := frame_mid2 99 13 (by kernel_rfl) (Nat.le_of_ble_eq_true rfl) hold); obtain ⟨x99, x100, x101, x102, x103, x104, x105, x106, x107, x108, x109, x110, x111, rfl⟩ := rowE13 ys hys; simp only [List.take_succ_cons, List.take_zero, List.drop_succ_cons, List.drop_zero, List.cons_append, List.nil_append] at htm; subst htm; obtain rfl : x111 = _ := someInjM tvZ; clear hys hold hgot tvZ hB; have Hxw : Hid (wx.heap[w7.heap.size]? = some (.cells #[.int .i64 0, .int .i64 0] 34 (0, 0))) := below_keep HBx.out Htw.out; go_wp2_with fail; (have HFw : Hid (∀ W, Calls Try.prog 21 #[.int .i64 2, .int .i64 0] W _) := fun W => mkF_any 2 0 W); refine (HFw.out _).mono ?_; rintro _ w11 ⟨rfl, hb11⟩; have HBy : Hid (Below w10.heap.size w10 w11) := below_join HBx.out hb11; have Hy2 : Hid (w11.heap[w5.heap.size]? = some (.cells #[.int .i64 2, .int .i64 0] 34 (0, 0))) := below_keep HBy.out Ht2.out; have Hyw : Hid (w11.heap[w7.heap.size]? = some (.cells #[.int .i64 0, .int .i64 0] 34 (0, 0))) := below_keep HBy.out Htw.out; obtain ⟨z0, z1, z2, z3⟩ := blk2 Hyw.out; obtain ⟨Z, hZ⟩ : ∃ Z, Z = (w11.setCell ⟨w7.heap.size, 0, none⟩ (.int .i64 2)).setCell ⟨w7.heap.size, 1, none⟩ (.int .i64 0) := ⟨_, rfl⟩; (have HZw : Hid (Z.heap[w7.heap.size]? = some (.cells #[.int .i64 2, .int .i64 0] 34 (0, 0))) := by rw [hZ]; exact set2 Hyw.out _ _); have h3 := H37.out; have h6 := H67.out; (have HZ2 : Hid (Z.heap[w5.heap.size]? = some (.cells #[.int .i64 2, .int .i64 0] 34 (0, 0))) := by show _ = _; rw [hZ, farM (by omega), farM (by omega)]; exact Hy2.out); (have HZB : Hid (Below w.heap.size w Z) := by rw [hZ]; exact ((below_join HtB.out HBy.out).setCell (p := ⟨w7.heap.size, 0, none⟩) (by show w.heap.size ≤ w7.heap.size; omega) _).setCell (p := ⟨w7.heap.size, 1, none⟩) (by show w.heap.size ≤ w7.heap.size; omega) _); have hZe := hZ.symm; clear hZ h3 h6; obtain ⟨e0, e1, -⟩ := blk2 HZ2.out; obtain ⟨g0, g1, -⟩ := blk2 HZw.out; go_wp2_with fail; go_ret; exact ⟨rfl, HZB.out⟩
    case neg =>
      (obtain ⟨rfl, rfl, hhb⟩ := HHt.out.2 (by omega)); (have hgt : decide ((12 : Int) < (nn : Int)) = false := decide_eq_false (by omega)); clear HHt hhb; (refine wp_region_free (by kernel_rfl) [fun v _ => v = (.pointer (some ⟨w7.heap.size, 0, none⟩)), fun v _ => v = (.int .i64 0), fun v _ => v = (.bool true), fun v _ => v = (.bool true), fun v _ => v = (.pointer (some ⟨w.heap.size, 0, none⟩)), fun v _ => v = (.int .i64 m.n), fun v _ => v = (.agg #[.int .i64 k, .string n, .slice sl ks.length cap]), kFl (.mk k n ks), kTl NL, fun v _ => v = (.int .i64 (NL.length : Nat)), fun v _ => v = (.int .i64 (nn : Nat)), fun v _ => v = (.bool false), fun v _ => v = (.bool false)] ?_ (by kernel_rfl) (by kernel_rfl) 143 rfl (by kernel_rfl) ?_ ?_)
      · intro p hp
        simp only [List.mem_cons, List.not_mem_nil, or_false] at hp
        rcases hp with rfl | rfl | rfl | rfl | rfl | rfl | rfl | rfl | rfl | rfl | rfl | rfl | rfl
        · exact fun _ _ _ h _ => h
        · exact fun _ _ _ h _ => h
        · exact fun _ _ _ h _ => h
        · exact fun _ _ _ h _ => h
        · exact fun _ _ _ h _ => h
        · exact fun _ _ _ h _ => h
        · exact fun _ _ _ h _ => h
        · exact kFl_stays _
        · exact kTl_stays _
        · exact fun _ _ _ h _ => h
        · exact fun _ _ _ h _ => h
        · exact fun _ _ _ h _ => h
        · exact fun _ _ _ h _ => h
      · refine ⟨?_, ?_, ?_, ?_, ?_, ?_, ?_, ?_, ?_, ?_, ?_, ?_, ?_, trivial⟩
        · intro a wx hB hold hdep K hK
          have t12 : a.tmps[12]? = some (.pointer (some ⟨w7.heap.size, 0, none⟩)) := hold.2.2 12 rfl; clear hold hdep; go_simp; exact hK.out _ _ rfl (Below.refl _ _)
        · intro a wx hB hold hdep K hK
          obtain ⟨v99, t99, p99⟩ := hdep 0 rfl _ 99 rfl rfl; have e99 : v99 = (.pointer (some ⟨w7.heap.size, 0, none⟩)) := p99; subst e99; obtain ⟨q0, q1, -⟩ := blk2 (below_keep hB Htw.out); clear hold hdep; go_simp; exact hK.out _ _ rfl (Below.refl _ _)
        · intro a wx hB hold hdep K hK
          obtain ⟨v100, t100, p100⟩ := hdep 1 rfl _ 100 rfl rfl; have e100 : v100 = (.int .i64 0) := p100; subst e100; clear hold hdep; go_simp; exact hK.out _ _ rfl (Below.refl _ _)
        · intro a wx hB hold hdep K hK
          obtain ⟨v101, t101, p101⟩ := hdep 2 rfl _ 101 rfl rfl; have e101 : v101 = (.bool true) := p101; subst e101; clear hold hdep; go_simp; exact hK.out _ _ rfl (Below.refl _ _)
        · intro a wx hB hold hdep K hK
          obtain ⟨v102, t102, p102⟩ := hdep 3 rfl _ 102 rfl rfl; have e102 : v102 = (.bool true) := p102; subst e102; have t2 : a.tmps[2]? = some (.pointer (some ⟨w.heap.size, 0, none⟩)) := hold.2.2 2 rfl; clear hold hdep; go_simp; exact hK.out _ _ rfl (Below.refl _ _)
        · intro a wx hB hold hdep K hK
          obtain ⟨v102, t102, p102⟩ := hdep 3 rfl _ 102 rfl rfl; have e102 : v102 = (.bool true) := p102; subst e102; obtain ⟨v103, t103, p103⟩ := hdep 4 rfl _ 103 rfl rfl; have e103 : v103 = (.pointer (some ⟨w.heap.size, 0, none⟩)) := p103; subst e103; obtain ⟨q0, q1, q2, -⟩ := blk3 (below_keep hB Htm.out); clear hold hdep; go_simp; exact hK.out _ _ rfl (Below.refl _ _)
        · intro a wx hB hold hdep K hK
          obtain ⟨v102, t102, p102⟩ := hdep 3 rfl _ 102 rfl rfl; have e102 : v102 = (.bool true) := p102; subst e102; have t3 : a.tmps[3]? = some (.pointer (some ⟨w.heap.size + 1, 0, none⟩)) := hold.2.2 3 rfl; obtain ⟨q0, q1, q2, -⟩ := blk3 (below_keep hB Htf.out); clear hold hdep; go_simp; exact hK.out _ _ rfl (Below.refl _ _)
        · intro a wx hB hold hdep K hK
          obtain ⟨v102, t102, p102⟩ := hdep 3 rfl _ 102 rfl rfl; have e102 : v102 = (.bool true) := p102; subst e102; obtain ⟨v105, t105, p105⟩ := hdep 6 rfl _ 105 rfl rfl; have e105 : v105 = (.agg #[.int .i64 k, .string n, .slice sl ks.length cap]) := p105; subst e105; (have HRp : Hid (Rep wx (fun _ => True) (.mk k n ks) (.agg #[.int .i64 k, .string n, .slice sl ks.length cap])) := HRf.out.up (below_join HtB.out hB)); clear hold hdep; go_simp; exact hK.out _ _ (FL.sing (T := 28) (blk_new _ _) (HRp.out.up (below_more (Below.refl _ _) _))) (below_more (Below.refl _ _) _)
        · intro a wx hB hold hdep K hK
          obtain ⟨v102, t102, p102⟩ := hdep 3 rfl _ 102 rfl rfl; have e102 : v102 = (.bool true) := p102; subst e102; obtain ⟨v106, t106, p106⟩ := hdep 7 rfl _ 106 rfl rfl; have P106 : Hid ((kFl (.mk k n ks)) v106 wx) := p106; clear p106; have HW : Hid (Calls Try.prog 20 #[v106] wx _) := HNa.out _ _ P106.out; clear hold hdep; go_simp; refine HW.out.mono ?_; rintro _ w9 ⟨x9, rfl, hr9, hb9⟩; have H9 : Hid (TL w9 x9 NL) := hr9; clear hr9; go_simp; exact hK.out _ _ H9.out hb9
        · intro a wx hB hold hdep K hK
          obtain ⟨v102, t102, p102⟩ := hdep 3 rfl _ 102 rfl rfl; have e102 : v102 = (.bool true) := p102; subst e102; obtain ⟨v107, t107, p107⟩ := hdep 8 rfl _ 107 rfl rfl; have P107 : Hid ((kTl NL) v107 wx) := p107; clear p107; obtain ⟨ad9, cp9, rfl, -⟩ := P107.out; clear P107; clear hold hdep; go_simp; exact hK.out _ _ rfl (Below.refl _ _)
        · intro a wx hB hold hdep K hK
          obtain ⟨v102, t102, p102⟩ := hdep 3 rfl _ 102 rfl rfl; have e102 : v102 = (.bool true) := p102; subst e102; obtain ⟨v104, t104, p104⟩ := hdep 5 rfl _ 104 rfl rfl; have e104 : v104 = (.int .i64 m.n) := p104; subst e104; obtain ⟨v108, t108, p108⟩ := hdep 9 rfl _ 108 rfl rfl; have e108 : v108 = (.int .i64 (NL.length : Nat)) := p108; subst e108; have hw9 := HMul.out; clear hold hdep; go_simp; exact hK.out _ _ rfl (Below.refl _ _)
        · intro a wx hB hold hdep K hK
          obtain ⟨v102, t102, p102⟩ := hdep 3 rfl _ 102 rfl rfl; have e102 : v102 = (.bool true) := p102; subst e102; obtain ⟨v109, t109, p109⟩ := hdep 10 rfl _ 109 rfl rfl; have e109 : v109 = (.int .i64 (nn : Nat)) := p109; subst e109; have h9 := hgt; clear hold hdep; go_simp; exact hK.out _ _ rfl (Below.refl _ _)
        · intro a wx hB hold hdep K hK
          obtain ⟨v102, t102, p102⟩ := hdep 3 rfl _ 102 rfl rfl; have e102 : v102 = (.bool true) := p102; subst e102; obtain ⟨v110, t110, p110⟩ := hdep 11 rfl _ 110 rfl rfl; have e110 : v110 = (.bool false) := p110; subst e110; clear hold hdep; go_simp; exact hK.out _ _ rfl (Below.refl _ _)
      · intro a wx hB hold hgot
        obtain ⟨vZ, tvZ, pvZ⟩ := hgot 12 _ 111 rfl rfl; have evZ : vZ = (.bool false) := pvZ; subst evZ; have HBx : Hid (Below w10.heap.size w10 wx) := hB; obtain ⟨tm, df⟩ := a; (obtain ⟨ys, hys, htm, rfl⟩ := frame_mid2 99 13 (by kernel_rfl) (Nat.le_of_ble_eq_true rfl) hold); obtain ⟨x99, x100, x101, x102, x103, x104, x105, x106, x107, x108, x109, x110, x111, rfl⟩ := rowE13 ys hys; simp only [List.take_succ_cons, List.take_zero, List.drop_succ_cons, List.drop_zero, List.cons_append, List.nil_append] at htm; subst htm; obtain rfl : x111 = _ := someInjM tvZ; clear hys hold hgot tvZ hB; have HBt : Hid (Below w10.heap.size w10 wx) := HBx.out; obtain ⟨V, hV⟩ : ∃ V, V = wx := ⟨_, rfl⟩; rw [← hV] at HBx HBt ⊢; clear hV; have HVm : Hid (V.heap[w.heap.size]? = some (.cells #[.int .i64 m.n, .slice ra m.rel.length rc, .slice ta m.tr.length tc] 25 (0, 0))) := below_keep HBx.out Htm.out; have HVf : Hid (V.heap[w.heap.size + 1]? = some (.cells #[.int .i64 k, .string n, .slice sl ks.length cap] 28 (0, 0))) := below_keep HBx.out Htf.out; have HVB : Hid (Below w.heap.size w V) := below_join HtB.out HBx.out; obtain ⟨e0, e1, -⟩ := blk2 (below_keep HBx.out Ht2.out); obtain ⟨g0, g1, -⟩ := blk2 (below_keep HBx.out Htw.out); go_wp2_with fail; clear e0 e1 g0 g1; by_cases h8 : 8 < nn
        case pos =>
          (have hgt8 : decide ((8 : Int) < (nn : Int)) = true := decide_eq_true (by omega)); (refine wp_region_last (by kernel_rfl) [fun v _ => v = (.pointer (some ⟨w.heap.size, 0, none⟩)), fun v _ => v = (.int .i64 m.n), fun v _ => v = (.agg #[.int .i64 k, .string n, .slice sl ks.length cap]), kFl (.mk k n ks), kTl NL, fun v _ => v = (.int .i64 (NL.length : Nat)), fun v _ => v = (.int .i64 (nn : Nat)), fun v _ => v = (.bool true), fun v _ => v = (.bool true), fun _ _ => True, fun _ _ => True, fun _ _ => True, fun _ _ => True, fun _ _ => True, fun v _ => v = (.bool true)] ?_ (by kernel_rfl) (by kernel_rfl) 143 rfl (by kernel_rfl) 15 _ rfl rfl (by kernel_rfl) ?_ ?_)
          · intro p hp
            simp only [List.mem_cons, List.not_mem_nil, or_false] at hp
            rcases hp with rfl | rfl | rfl | rfl | rfl | rfl | rfl | rfl | rfl | rfl | rfl | rfl | rfl | rfl | rfl
            · exact fun _ _ _ h _ => h
            · exact fun _ _ _ h _ => h
            · exact fun _ _ _ h _ => h
            · exact kFl_stays _
            · exact kTl_stays _
            · exact fun _ _ _ h _ => h
            · exact fun _ _ _ h _ => h
            · exact fun _ _ _ h _ => h
            · exact fun _ _ _ h _ => h
            · exact fun _ _ _ h _ => h
            · exact fun _ _ _ h _ => h
            · exact fun _ _ _ h _ => h
            · exact fun _ _ _ h _ => h
            · exact fun _ _ _ h _ => h
            · exact fun _ _ _ h _ => h
          · refine ⟨?_, ?_, ?_, ?_, ?_, ?_, ?_, ?_, ?_, ?_, ?_, ?_, ?_, ?_, ?_, trivial⟩
            · intro a wx hB hold hdep K hK
              have t2 : a.tmps[2]? = some (.pointer (some ⟨w.heap.size, 0, none⟩)) := hold.2.2 2 rfl; clear hold hdep; go_simp; exact hK.out _ _ rfl (Below.refl _ _)
            · intro a wx hB hold hdep K hK
              obtain ⟨v128, t128, p128⟩ := hdep 0 rfl _ 128 rfl rfl; have e128 : v128 = (.pointer (some ⟨w.heap.size, 0, none⟩)) := p128; subst e128; obtain ⟨q0, q1, q2, -⟩ := blk3 (below_keep hB HVm.out); clear hold hdep; go_simp; exact hK.out _ _ rfl (Below.refl _ _)
            · intro a wx hB hold hdep K hK
              have t3 : a.tmps[3]? = some (.pointer (some ⟨w.heap.size + 1, 0, none⟩)) := hold.2.2 3 rfl; obtain ⟨q0, q1, q2, -⟩ := blk3 (below_keep hB HVf.out); clear hold hdep; go_simp; exact hK.out _ _ rfl (Below.refl _ _)
            · intro a wx hB hold hdep K hK
              obtain ⟨v130, t130, p130⟩ := hdep 2 rfl _ 130 rfl rfl; have e130 : v130 = (.agg #[.int .i64 k, .string n, .slice sl ks.length cap]) := p130; subst e130; (have HRp : Hid (Rep wx (fun _ => True) (.mk k n ks) (.agg #[.int .i64 k, .string n, .slice sl ks.length cap])) := HRf.out.up (below_join HVB.out hB)); clear hold hdep; go_simp; exact hK.out _ _ (FL.sing (T := 28) (blk_new _ _) (HRp.out.up (below_more (Below.refl _ _) _))) (below_more (Below.refl _ _) _)
            · intro a wx hB hold hdep K hK
              obtain ⟨v131, t131, p131⟩ := hdep 3 rfl _ 131 rfl rfl; have P131 : Hid ((kFl (.mk k n ks)) v131 wx) := p131; clear p131; have HW : Hid (Calls Try.prog 20 #[v131] wx _) := HNa.out _ _ P131.out; clear hold hdep; go_simp; refine HW.out.mono ?_; rintro _ w9 ⟨x9, rfl, hr9, hb9⟩; have H9 : Hid (TL w9 x9 NL) := hr9; clear hr9; go_simp; exact hK.out _ _ H9.out hb9
            · intro a wx hB hold hdep K hK
              obtain ⟨v132, t132, p132⟩ := hdep 4 rfl _ 132 rfl rfl; have P132 : Hid ((kTl NL) v132 wx) := p132; clear p132; obtain ⟨ad9, cp9, rfl, -⟩ := P132.out; clear P132; clear hold hdep; go_simp; exact hK.out _ _ rfl (Below.refl _ _)
            · intro a wx hB hold hdep K hK
              obtain ⟨v129, t129, p129⟩ := hdep 1 rfl _ 129 rfl rfl; have e129 : v129 = (.int .i64 m.n) := p129; subst e129; obtain ⟨v133, t133, p133⟩ := hdep 5 rfl _ 133 rfl rfl; have e133 : v133 = (.int .i64 (NL.length : Nat)) := p133; subst e133; have hw9 := HMul.out; clear hold hdep; go_simp; exact hK.out _ _ rfl (Below.refl _ _)
            · intro a wx hB hold hdep K hK
              obtain ⟨v134, t134, p134⟩ := hdep 6 rfl _ 134 rfl rfl; have e134 : v134 = (.int .i64 (nn : Nat)) := p134; subst e134; have h9 := hgt8; clear hold hdep; go_simp; exact hK.out _ _ rfl (Below.refl _ _)
            · intro a wx hB hold hdep K hK
              obtain ⟨v135, t135, p135⟩ := hdep 7 rfl _ 135 rfl rfl; have e135 : v135 = (.bool true) := p135; subst e135; clear hold hdep; go_simp; exact hK.out _ _ rfl (Below.refl _ _)
            · intro a wx hB hold hdep K hK
              obtain ⟨v136, t136, p136⟩ := hdep 8 rfl _ 136 rfl rfl; have e136 : v136 = (.bool true) := p136; subst e136; clear hold hdep; go_simp; exact hK.out _ _ trivial (Below.refl _ _)
            · intro a wx hB hold hdep K hK
              obtain ⟨v136, t136, p136⟩ := hdep 8 rfl _ 136 rfl rfl; have e136 : v136 = (.bool true) := p136; subst e136; clear hold hdep; go_simp; exact hK.out _ _ trivial (Below.refl _ _)
            · intro a wx hB hold hdep K hK
              obtain ⟨v136, t136, p136⟩ := hdep 8 rfl _ 136 rfl rfl; have e136 : v136 = (.bool true) := p136; subst e136; clear hold hdep; go_simp; exact hK.out _ _ trivial (Below.refl _ _)
            · intro a wx hB hold hdep K hK
              obtain ⟨v136, t136, p136⟩ := hdep 8 rfl _ 136 rfl rfl; have e136 : v136 = (.bool true) := p136; subst e136; clear hold hdep; go_simp; exact hK.out _ _ trivial (Below.refl _ _)
            · intro a wx hB hold hdep K hK
              obtain ⟨v136, t136, p136⟩ := hdep 8 rfl _ 136 rfl rfl; have e136 : v136 = (.bool true) := p136; subst e136; clear hold hdep; go_simp; exact hK.out _ _ trivial (Below.refl _ _)
            · intro a wx hB hold hdep K hK
              obtain ⟨v136, t136, p136⟩ := hdep 8 rfl _ 136 rfl rfl; have e136 : v136 = (.bool true) := p136; subst e136; clear hold hdep; go_simp; exact hK.out _ _ rfl (Below.refl _ _)
          · intro a wx hB hold hgot K hK
            (obtain ⟨vZ, tvZ, pvZ⟩ := hgot 14 _ 142 (by omega) rfl rfl); have evZ : vZ = (.bool true) := pvZ; subst evZ; have HBx : Hid (Below V.heap.size V wx) := hB; obtain ⟨tm, df⟩ := a; (obtain ⟨ys, zs, hys, hzs, htm, rfl⟩ := frame_two 4 1 123 15 5 128 143 rfl rfl rfl (by kernel_rfl) (Nat.le_of_ble_eq_true rfl) hold); obtain ⟨y4, rfl⟩ := rowE1 ys hys; obtain ⟨y128, y129, y130, y131, y132, y133, y134, y135, y136, y137, y138, y139, y140, y141, y142, rfl⟩ := rowE15 zs hzs; simp only [List.take_succ_cons, List.take_zero, List.drop_succ_cons, List.drop_zero, List.cons_append, List.nil_append] at htm; subst htm; obtain rfl : y142 = _ := someInjM tvZ; clear hys hzs hold hgot tvZ hB; go_simp; refine hK.out _ _ ?_; clear hK; go_wp2_with fail; go_ret; exact ⟨rfl, below_join HVB.out HBx.out⟩
        case neg =>
          (have hgt8 : decide ((8 : Int) < (nn : Int)) = false := decide_eq_false (by omega)); (have HEw : Hid (∀ v u W, MR W m v → Rep W (fun _ => True) (.mk k n ks) u → Calls Try.prog 22 #[v, u] W _) := HEw.out (by omega)); (refine wp_region_last (by kernel_rfl) [fun v _ => v = (.pointer (some ⟨w.heap.size, 0, none⟩)), fun v _ => v = (.int .i64 m.n), fun v _ => v = (.agg #[.int .i64 k, .string n, .slice sl ks.length cap]), kFl (.mk k n ks), kTl NL, fun v _ => v = (.int .i64 (NL.length : Nat)), fun v _ => v = (.int .i64 (nn : Nat)), fun v _ => v = (.bool false), fun v _ => v = (.bool false), fun v _ => v = (.bool hb), fun v _ => v = (.agg #[.int .i64 m.n, .slice ra m.rel.length rc, .slice ta m.tr.length tc]), fun v _ => v = (.agg #[.int .i64 k, .string n, .slice sl ks.length cap]), fun v _ => v = (.bool hb), fun v _ => v = (.bool true), fun v _ => v = (.bool true)] ?_ (by kernel_rfl) (by kernel_rfl) 143 rfl (by kernel_rfl) 15 _ rfl rfl (by kernel_rfl) ?_ ?_)
          · intro p hp
            simp only [List.mem_cons, List.not_mem_nil, or_false] at hp
            rcases hp with rfl | rfl | rfl | rfl | rfl | rfl | rfl | rfl | rfl | rfl | rfl | rfl | rfl | rfl | rfl
            · exact fun _ _ _ h _ => h
            · exact fun _ _ _ h _ => h
            · exact fun _ _ _ h _ => h
            · exact kFl_stays _
            · exact kTl_stays _
            · exact fun _ _ _ h _ => h
            · exact fun _ _ _ h _ => h
            · exact fun _ _ _ h _ => h
            · exact fun _ _ _ h _ => h
            · exact fun _ _ _ h _ => h
            · exact fun _ _ _ h _ => h
            · exact fun _ _ _ h _ => h
            · exact fun _ _ _ h _ => h
            · exact fun _ _ _ h _ => h
            · exact fun _ _ _ h _ => h
          · refine ⟨?_, ?_, ?_, ?_, ?_, ?_, ?_, ?_, ?_, ?_, ?_, ?_, ?_, ?_, ?_, trivial⟩
            · intro a wx hB hold hdep K hK
              have t2 : a.tmps[2]? = some (.pointer (some ⟨w.heap.size, 0, none⟩)) := hold.2.2 2 rfl; clear hold hdep; go_simp; exact hK.out _ _ rfl (Below.refl _ _)
            · intro a wx hB hold hdep K hK
              obtain ⟨v128, t128, p128⟩ := hdep 0 rfl _ 128 rfl rfl; have e128 : v128 = (.pointer (some ⟨w.heap.size, 0, none⟩)) := p128; subst e128; obtain ⟨q0, q1, q2, -⟩ := blk3 (below_keep hB HVm.out); clear hold hdep; go_simp; exact hK.out _ _ rfl (Below.refl _ _)
            · intro a wx hB hold hdep K hK
              have t3 : a.tmps[3]? = some (.pointer (some ⟨w.heap.size + 1, 0, none⟩)) := hold.2.2 3 rfl; obtain ⟨q0, q1, q2, -⟩ := blk3 (below_keep hB HVf.out); clear hold hdep; go_simp; exact hK.out _ _ rfl (Below.refl _ _)
            · intro a wx hB hold hdep K hK
              obtain ⟨v130, t130, p130⟩ := hdep 2 rfl _ 130 rfl rfl; have e130 : v130 = (.agg #[.int .i64 k, .string n, .slice sl ks.length cap]) := p130; subst e130; (have HRp : Hid (Rep wx (fun _ => True) (.mk k n ks) (.agg #[.int .i64 k, .string n, .slice sl ks.length cap])) := HRf.out.up (below_join HVB.out hB)); clear hold hdep; go_simp; exact hK.out _ _ (FL.sing (T := 28) (blk_new _ _) (HRp.out.up (below_more (Below.refl _ _) _))) (below_more (Below.refl _ _) _)
            · intro a wx hB hold hdep K hK
              obtain ⟨v131, t131, p131⟩ := hdep 3 rfl _ 131 rfl rfl; have P131 : Hid ((kFl (.mk k n ks)) v131 wx) := p131; clear p131; have HW : Hid (Calls Try.prog 20 #[v131] wx _) := HNa.out _ _ P131.out; clear hold hdep; go_simp; refine HW.out.mono ?_; rintro _ w9 ⟨x9, rfl, hr9, hb9⟩; have H9 : Hid (TL w9 x9 NL) := hr9; clear hr9; go_simp; exact hK.out _ _ H9.out hb9
            · intro a wx hB hold hdep K hK
              obtain ⟨v132, t132, p132⟩ := hdep 4 rfl _ 132 rfl rfl; have P132 : Hid ((kTl NL) v132 wx) := p132; clear p132; obtain ⟨ad9, cp9, rfl, -⟩ := P132.out; clear P132; clear hold hdep; go_simp; exact hK.out _ _ rfl (Below.refl _ _)
            · intro a wx hB hold hdep K hK
              obtain ⟨v129, t129, p129⟩ := hdep 1 rfl _ 129 rfl rfl; have e129 : v129 = (.int .i64 m.n) := p129; subst e129; obtain ⟨v133, t133, p133⟩ := hdep 5 rfl _ 133 rfl rfl; have e133 : v133 = (.int .i64 (NL.length : Nat)) := p133; subst e133; have hw9 := HMul.out; clear hold hdep; go_simp; exact hK.out _ _ rfl (Below.refl _ _)
            · intro a wx hB hold hdep K hK
              obtain ⟨v134, t134, p134⟩ := hdep 6 rfl _ 134 rfl rfl; have e134 : v134 = (.int .i64 (nn : Nat)) := p134; subst e134; have h9 := hgt8; clear hold hdep; go_simp; exact hK.out _ _ rfl (Below.refl _ _)
            · intro a wx hB hold hdep K hK
              obtain ⟨v135, t135, p135⟩ := hdep 7 rfl _ 135 rfl rfl; have e135 : v135 = (.bool false) := p135; subst e135; clear hold hdep; go_simp; exact hK.out _ _ rfl (Below.refl _ _)
            · intro a wx hB hold hdep K hK
              obtain ⟨v136, t136, p136⟩ := hdep 8 rfl _ 136 rfl rfl; have e136 : v136 = (.bool false) := p136; subst e136; have t8 : a.tmps[8]? = some (.bool hb) := hold.2.2 8 rfl; clear hold hdep; go_simp; exact hK.out _ _ rfl (Below.refl _ _)
            · intro a wx hB hold hdep K hK
              obtain ⟨v136, t136, p136⟩ := hdep 8 rfl _ 136 rfl rfl; have e136 : v136 = (.bool false) := p136; subst e136; have t2 : a.tmps[2]? = some (.pointer (some ⟨w.heap.size, 0, none⟩)) := hold.2.2 2 rfl; obtain ⟨q0, q1, q2, -⟩ := blk3 (below_keep hB HVm.out); clear hold hdep; go_simp; exact hK.out _ _ rfl (Below.refl _ _)
            · intro a wx hB hold hdep K hK
              obtain ⟨v136, t136, p136⟩ := hdep 8 rfl _ 136 rfl rfl; have e136 : v136 = (.bool false) := p136; subst e136; have t3 : a.tmps[3]? = some (.pointer (some ⟨w.heap.size + 1, 0, none⟩)) := hold.2.2 3 rfl; obtain ⟨q0, q1, q2, -⟩ := blk3 (below_keep hB HVf.out); clear hold hdep; go_simp; exact hK.out _ _ rfl (Below.refl _ _)
            · intro a wx hB hold hdep K hK
              obtain ⟨v136, t136, p136⟩ := hdep 8 rfl _ 136 rfl rfl; have e136 : v136 = (.bool false) := p136; subst e136; obtain ⟨v138, t138, p138⟩ := hdep 10 rfl _ 138 rfl rfl; have e138 : v138 = (.agg #[.int .i64 m.n, .slice ra m.rel.length rc, .slice ta m.tr.length tc]) := p138; subst e138; obtain ⟨v139, t139, p139⟩ := hdep 11 rfl _ 139 rfl rfl; have e139 : v139 = (.agg #[.int .i64 k, .string n, .slice sl ks.length cap]) := p139; subst e139; have HW : Hid (Calls Try.prog 22 #[.agg #[.int .i64 m.n, .slice ra m.rel.length rc, .slice ta m.tr.length tc], .agg #[.int .i64 k, .string n, .slice sl ks.length cap]] wx _) := HEw.out _ _ _ (HRm.out.up (below_join HVB.out hB)) (HRf.out.up (below_join HVB.out hB)); clear hold hdep; go_simp; refine HW.out.mono ?_; rintro _ w9 ⟨rfl, hb9⟩; go_simp; exact hK.out _ _ rfl hb9
            · intro a wx hB hold hdep K hK
              obtain ⟨v136, t136, p136⟩ := hdep 8 rfl _ 136 rfl rfl; have e136 : v136 = (.bool false) := p136; subst e136; obtain ⟨v137, t137, p137⟩ := hdep 9 rfl _ 137 rfl rfl; have e137 : v137 = (.bool hb) := p137; subst e137; obtain ⟨v140, t140, p140⟩ := hdep 12 rfl _ 140 rfl rfl; have e140 : v140 = (.bool hb) := p140; subst e140; clear hold hdep; go_simp; exact hK.out _ _ rfl (Below.refl _ _)
            · intro a wx hB hold hdep K hK
              obtain ⟨v136, t136, p136⟩ := hdep 8 rfl _ 136 rfl rfl; have e136 : v136 = (.bool false) := p136; subst e136; obtain ⟨v141, t141, p141⟩ := hdep 13 rfl _ 141 rfl rfl; have e141 : v141 = (.bool true) := p141; subst e141; clear hold hdep; go_simp; exact hK.out _ _ rfl (Below.refl _ _)
          · intro a wx hB hold hgot K hK
            (obtain ⟨vZ, tvZ, pvZ⟩ := hgot 14 _ 142 (by omega) rfl rfl); have evZ : vZ = (.bool true) := pvZ; subst evZ; have HBx : Hid (Below V.heap.size V wx) := hB; obtain ⟨tm, df⟩ := a; (obtain ⟨ys, zs, hys, hzs, htm, rfl⟩ := frame_two 4 1 123 15 5 128 143 rfl rfl rfl (by kernel_rfl) (Nat.le_of_ble_eq_true rfl) hold); obtain ⟨y4, rfl⟩ := rowE1 ys hys; obtain ⟨y128, y129, y130, y131, y132, y133, y134, y135, y136, y137, y138, y139, y140, y141, y142, rfl⟩ := rowE15 zs hzs; simp only [List.take_succ_cons, List.take_zero, List.drop_succ_cons, List.drop_zero, List.cons_append, List.nil_append] at htm; subst htm; obtain rfl : y142 = _ := someInjM tvZ; clear hys hzs hold hgot tvZ hB; go_simp; refine hK.out _ _ ?_; clear hK; go_wp2_with fail; go_ret; exact ⟨rfl, below_join HVB.out HBx.out⟩
theorem evals_text (m : Mdl) (f : Fm) (v u : Value) (w : World) (hbd : m.rel.length ≤ 8796093022208 ∧ m.tr.length ≤ 5864062014634 ∧ ∀ l ∈ m.tr, l.length ≤ 8796093022208) (hm : MR w m v) (hv : Rep w (fun _ => True) f u) :
    Calls Try.prog 3 #[v, u] w fun e w' => e = .returned (.bool true) ∧ Below w.heap.size w w' := evals_law m hbd.1 hbd.2.1 hbd.2.2 f v u w hm hv
end Go.Proofs.Ytmahgfgndfcmpag
