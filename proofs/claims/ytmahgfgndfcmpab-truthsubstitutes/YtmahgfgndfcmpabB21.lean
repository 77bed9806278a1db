/- Texts of one proof, one behind the other: Tr8, Tr9, TY1, TY5, TV0. -/
import Derived.Test.YtmahgfgndfcmpabB19
import Derived.Test.YtmahgfgndfcmpabB20
import Derived.Test.YtmahgfgndfcmpabB18
import Derived.Test.YtmahgfgndfcmpabB16
/- Walks: Rows, Valid. -/
namespace Go.Proofs.Ytmahgfgndfcmpab
open Go.RowKit Go.Sort

set_option maxHeartbeats 2000000 in
theorem valid_no (f : Fm) (c a : Int) (hc : c ≠ 0) (hcf : f.ncode = (c, a)) (v : Value) (w : World) (hrep : Rep w (fun _ => True) f v) :
    Calls Try.prog 24 #[v] w fun e w' => e = .returned (.tuple #[.bool false, .slice none 0 0, .agg #[.int .i64 c, .int .i64 a]]) ∧ Below w.heap.size w w' := by
  (have hck := fun v (w : World) h => np_no f c a hc hcf v w h); (have hne' : (c != 0) = true := by simpa using hc); obtain ⟨k, n, ks⟩ := f; obtain ⟨sl, cap, rfl⟩ := slice_shape hrep; have HC : Hid (∀ v w, _ → Calls Try.prog 45 #[v] w _) := hck; clear hck hcf hc
  go_enter Try.func24, Try.ntmps24
  go_wp2_with (first
    | (go_at_call 45
       refine (HC.out _ _ ((hrep.more _).more _)).mono ?_; rintro e w1 ⟨rfl, hb1⟩; have z1 := hb1.size; simp at z1; have q1 := below_keep hb1 (blk_new (w.alloc _) _); (rw [show (w.alloc _).heap.size = w.heap.size + 1 by simp] at q1); have B1 := below_join (below_more (below_more (Below.refl _ w) _) _) hb1; obtain ⟨k1, k2, k3, k4⟩ := blk2 q1; (have d1 : ¬ w.heap.size + 1 = w1.heap.size := by omega); (have d2 : ¬ w1.heap.size = w.heap.size + 1 := by omega)
       have d3 : w.heap.size + 1 < w1.heap.size := by omega)
    | fail)
  go_region
  all_goals go_wp2
  have f2 := set2 q1 (.int .i64 c) (.int .i64 a); (have b2 := (B1.setCell (p := ⟨w.heap.size + 1, 0, none⟩) (by simp) (.int .i64 c)).setCell (p := ⟨w.heap.size + 1, 1, none⟩) (by simp) (.int .i64 a)); (have hsz : ((w1.setCell ⟨w.heap.size + 1, 0, none⟩ (.int .i64 c)).setCell ⟨w.heap.size + 1, 1, none⟩ (.int .i64 a)).heap.size = w1.heap.size := by simp [World.setCell]); generalize World.setCell _ _ _ = F at f2 b2 hsz ⊢; clear k1 k2 k3 k4; obtain ⟨k1, k2, -⟩ := blk2 f2; (have d4 : w.heap.size + 1 < F.heap.size := by omega); (exact bodyPost_ret (v := .tuple #[.bool false, .slice none 0 0, .agg #[.int .i64 c, .int .i64 a]]) (by simp [results, Try.results24, go_sem, k1, k2, d4]) rfl ⟨rfl, (b2.alloc (by omega) _).drew⟩)

end Go.Proofs.Ytmahgfgndfcmpab
/- Walks: Valid, of what can be gone through. -/
namespace Go.Proofs.Ytmahgfgndfcmpab
open Go.RowKit Go.Sort

theorem colL_len (f : Fm) (l : List (List UInt8)) : (colL f l).length = 2 ^ l.length := by simp [colL]

set_option maxHeartbeats 2000000 in
theorem valid_yes (f : Fm) (h : f.ncode.1 = 0) (v : Value) (w : World) (hrep : Rep w (fun _ => True) f v) :
    Calls Try.prog 24 #[v] w fun e w' => ∃ x, e = .returned (.tuple #[.bool (decide (false ∉ colL f (nmsU f))), x, .agg #[.int .i64 0, .int .i64 0]]) ∧ TL w' x (if false ∈ colL f (nmsU f) then rowN ((colL f (nmsU f)).idxOf false) (nmsU f) 0 else []) ∧ Below w.heap.size w w' := by
  (have hck := fun v (w : World) h' => np_yes f h v w h'); (have hco := fun v u (w : World) h1 h2 => column_own f h v u w h1 h2); obtain ⟨-, h6, -⟩ := ncode_ok h; have hcl := colL_len f (nmsU f)
  have hc64 : (colL f (nmsU f)).length ≤ 64 := by
    rw [hcl]; exact (shl_row _ h6).2.2
  generalize nmsU f = U at *; generalize colL f U = C at *; (have hix := fun v (w : World) h => index_bool C (by omega) false v w h); (have htr := fun (r : Nat) (hr : r ≤ 64) u (w : World) hu => trueIn_any r (by omega) U (by omega) u w hu); obtain ⟨k, n, ks⟩ := f; obtain ⟨sl, cap, rfl⟩ := slice_shape hrep; have HC : Hid (∀ v w, _ → Calls Try.prog 45 #[v] w _) := hck; (have HD : Hid (∀ v u w, Rep w (fun _ => True) (.mk k n ks) v → TL w u U → Calls Try.prog 43 #[v, u] w _) := hco); clear hck hco h hcl; by_cases hm : false ∈ C
  · have hj : fIdx C false = ((C.idxOf false : Nat) : Int) := if_pos hm
    (have hjl : C.idxOf false ≤ 64 := by have := List.idxOf_le_length (a := false) (l := C); omega); rw [hj] at hix; (have HT : Hid (∀ u w, SL w u U → Calls Try.prog 47 #[.int .i64 ((C.idxOf false : Nat)), u] w _) := fun u w hu => htr (C.idxOf false) hjl u w hu); (rw [if_pos hm, decide_eq_false (fun h => h hm)]); generalize C.idxOf false = r at *; generalize rowN r U 0 = R at *; have HI : Hid (∀ v w, BL w v C → Calls Try.prog 46 #[v, .bool false] w _) := hix; (have hrI : (r : Int) ≤ 64 := by omega); clear hix htr hm hj
    go_enter Try.func24, Try.ntmps24
    go_wp2_with (first
      | (go_at_call 45
         refine (HC.out _ _ ((hrep.more _).more _)).mono ?_; rintro e w1 ⟨x, rfl, htl, hb1⟩; have HTL : Hid (TL w1 x U) := htl; obtain ⟨adU, cpU, rfl, -⟩ := htl; have z1 := hb1.size; simp at z1; have q0 := below_keep hb1 (alloc_keep (blk_new w _) _); have q1 := below_keep hb1 (blk_new (w.alloc _) _); (rw [show (w.alloc _).heap.size = w.heap.size + 1 by simp] at q1); have B1 := below_join (below_more (below_more (Below.refl _ w) _) _) hb1; obtain ⟨a0, a1, a2, -⟩ := blk3 q0; have y0 : w.heap.size < w1.heap.size := lt_of_block q0
         have y1 : w.heap.size + 1 < w1.heap.size := lt_of_block q1)
      | (go_at_call 43
         refine (HD.out _ _ _ ((hrep.up B1).more _) (HTL.out.up ((Below.refl _ _).alloc (Nat.le_refl _) _))).mono ?_; rintro e w2 ⟨x, rfl, hbl, hb2⟩; have HBL : Hid (BL w2 x C) := hbl; obtain ⟨adC, cpC, rfl, -⟩ := hbl; have r1 := below_keep hb2 (alloc_keep q1 _); have B2 := below_join (below_more B1 _) hb2; have HT2 : Hid (TL w2 (.slice adU U.length cpU) U) := (HTL.out.up ((Below.refl _ _).alloc (Nat.le_refl _) _)).up hb2
         have l1 := lt_of_block r1)
      | (go_at_call 46
         refine (HI.out _ _ HBL.out).mono ?_; rintro e w3 ⟨rfl, hw3⟩; have hw4 := hw3.symm
         subst hw4)
      | (go_at_call 47
         refine (HT.out _ _ HT2.out.sl).mono ?_; rintro e w3 ⟨x, rfl, htl, hb3⟩; have HTR : Hid (TL w3 x R) := htl; obtain ⟨adR, cpR, rfl, -⟩ := htl; have s1 := below_keep hb3 r1; have B3 := below_join B2 hb3
         obtain ⟨k1, k2, k3, k4⟩ := blk2 s1)
      | fail)
    have f2 := set2 s1 (.int .i64 0) (.int .i64 0); (have b2 := (B3.setCell (p := ⟨w.heap.size + 1, 0, none⟩) (by simp) (.int .i64 0)).setCell (p := ⟨w.heap.size + 1, 1, none⟩) (by simp) (.int .i64 0)); have TF := HTR.out.set2 s1 (.int .i64 0) (.int .i64 0); generalize World.setCell _ _ _ = F at f2 b2 TF ⊢; clear k1 k2 k3 k4; obtain ⟨k1, k2, -⟩ := blk2 f2; (exact bodyPost_ret (v := .tuple #[.bool false, .slice adR R.length cpR, .agg #[.int .i64 0, .int .i64 0]]) (by simp [results, Try.results24, go_sem, k1, k2]) rfl ⟨_, rfl, TF, b2⟩)
  · have hj : fIdx C false = -1 := if_neg hm
    rw [hj] at hix; rw [if_neg hm, decide_eq_true hm]; have HI : Hid (∀ v w, BL w v C → Calls Try.prog 46 #[v, .bool false] w _) := hix; clear hix htr hm hj
    go_enter Try.func24, Try.ntmps24
    go_wp2_with (first
      | (go_at_call 45
         refine (HC.out _ _ ((hrep.more _).more _)).mono ?_; rintro e w1 ⟨x, rfl, htl, hb1⟩; have HTL : Hid (TL w1 x U) := htl; obtain ⟨adU, cpU, rfl, -⟩ := htl; have z1 := hb1.size; simp at z1; have q0 := below_keep hb1 (alloc_keep (blk_new w _) _); have q1 := below_keep hb1 (blk_new (w.alloc _) _); (rw [show (w.alloc _).heap.size = w.heap.size + 1 by simp] at q1); have B1 := below_join (below_more (below_more (Below.refl _ w) _) _) hb1; obtain ⟨a0, a1, a2, -⟩ := blk3 q0; have y0 : w.heap.size < w1.heap.size := lt_of_block q0
         have y1 : w.heap.size + 1 < w1.heap.size := lt_of_block q1)
      | (go_at_call 43
         refine (HD.out _ _ _ ((hrep.up B1).more _) (HTL.out.up ((Below.refl _ _).alloc (Nat.le_refl _) _))).mono ?_; rintro e w2 ⟨x, rfl, hbl, hb2⟩; have HBL : Hid (BL w2 x C) := hbl; obtain ⟨adC, cpC, rfl, -⟩ := hbl; have r1 := below_keep hb2 (alloc_keep q1 _); have B2 := below_join (below_more B1 _) hb2
         have l1 := lt_of_block r1)
      | (go_at_call 46
         refine (HI.out _ _ HBL.out).mono ?_; rintro e w3 ⟨rfl, hw3⟩; have hw4 := hw3.symm; subst hw4
         obtain ⟨k1, k2, k3, k4⟩ := blk2 r1)
      | fail)
    have f2 := set2 r1 (.int .i64 0) (.int .i64 0); (have b2 := (B2.setCell (p := ⟨w.heap.size + 1, 0, none⟩) (by simp) (.int .i64 0)).setCell (p := ⟨w.heap.size + 1, 1, none⟩) (by simp) (.int .i64 0)); generalize World.setCell _ _ _ = F at f2 b2 ⊢; clear k1 k2 k3 k4; obtain ⟨k1, k2, -⟩ := blk2 f2; (exact bodyPost_ret (v := .tuple #[.bool true, .slice none 0 0, .agg #[.int .i64 0, .int .i64 0]]) (by simp [results, Try.results24, go_sem, k1, k2]) rfl ⟨_, rfl, TL.nil, b2⟩)
end Go.Proofs.Ytmahgfgndfcmpab
/- Walks: two formulas made one. -/
namespace Go.Proofs.Ytmahgfgndfcmpab
open Go.RowKit Go.Sort

set_option maxHeartbeats 1000000 in
theorem both_any (k : Int) (f g : Fm) (v u : Value) (w : World) (hv : Rep w (fun _ => True) f v) (hu : Rep w (fun _ => True) g u) :
    Calls Try.prog 25 #[.int .i64 k, v, u] w fun e w' => ∃ x, e = .returned x ∧ Rep w' (fun _ => True) (.mk k ⟨#[]⟩ [f, g]) x ∧ Below w.heap.size w w' := by
  obtain ⟨k1, n1, ks1⟩ := f; obtain ⟨k2, n2, ks2⟩ := g; obtain ⟨sl1, cp1, rfl⟩ := slice_shape hv; obtain ⟨sl2, cp2, rfl⟩ := slice_shape hu; (have HV : Hid (Rep w (fun _ => True) (.mk k1 n1 ks1) (.agg #[.int .i64 k1, .string n1, .slice sl1 ks1.length cp1])) := hv); (have HU : Hid (Rep w (fun _ => True) (.mk k2 n2 ks2) (.agg #[.int .i64 k2, .string n2, .slice sl2 ks2.length cp2])) := hu); clear hv hu
  go_enter Try.func25, Try.ntmps25
  go_wp2_with fail; have q := blk_new (((w.alloc (.cells #[.int .i64 k1, .string n1, .slice sl1 ks1.length cp1] 37 (0, 0))).alloc (.cells #[.int .i64 k2, .string n2, .slice sl2 ks2.length cp2] 37 (0, 0))).alloc (.cells #[.int .i64 k, .string ⟨#[]⟩, .slice (some ⟨w.heap.size + 1 + 1 + 1, 0, none⟩) 2 2] 37 (0, 0))) (.cells #[.int .i64 k1, .string n1, .slice sl1 ks1.length cp1, .int .i64 k2, .string n2, .slice sl2 ks2.length cp2] 37 (0, 0)); (rw [show (((w.alloc (.cells #[.int .i64 k1, .string n1, .slice sl1 ks1.length cp1] 37 (0, 0))).alloc (.cells #[.int .i64 k2, .string n2, .slice sl2 ks2.length cp2] 37 (0, 0))).alloc (.cells #[.int .i64 k, .string ⟨#[]⟩, .slice (some ⟨w.heap.size + 1 + 1 + 1, 0, none⟩) 2 2] 37 (0, 0))).heap.size = w.heap.size + 1 + 1 + 1 by simp] at q); have B := below_more (below_more (below_more (below_more (Below.refl _ w) (.cells #[.int .i64 k1, .string n1, .slice sl1 ks1.length cp1] 37 (0, 0))) (.cells #[.int .i64 k2, .string n2, .slice sl2 ks2.length cp2] 37 (0, 0))) (.cells #[.int .i64 k, .string ⟨#[]⟩, .slice (some ⟨w.heap.size + 1 + 1 + 1, 0, none⟩) 2 2] 37 (0, 0))) (.cells #[.int .i64 k1, .string n1, .slice sl1 ks1.length cp1, .int .i64 k2, .string n2, .slice sl2 ks2.length cp2] 37 (0, 0)); (exact bodyPost_ret (v := .agg #[.int .i64 k, .string ⟨#[]⟩, .slice (some ⟨w.heap.size + 1 + 1 + 1, 0, none⟩) 2 2]) (by simp [results, Try.results25, go_sem]) rfl ⟨_, rfl, Rep.two q trivial (HV.out.up B) (HU.out.up B), B⟩)

/-! The document's examples. -/
def fP : Fm := .mk 1 ⟨#[112]⟩ []
def fQ : Fm := .mk 1 ⟨#[113]⟩ []
def fPQ : Fm := .mk 7 ⟨#[]⟩ [fP, fQ]

theorem fPQ_fine : Fine fPQ := fine_two 7 fP fQ (by decide) (by have := fine_name (l := [112]) (by decide); exact this) (by have := fine_name (l := [113]) (by decide); exact this)
theorem fPQ_size : fPQ.size = 3 := by simp [fPQ, fP, fQ, Fm.size, Fm.sizes]
theorem fPQ_nodes : allN fPQ = [fPQ, fP, fQ] := by
  unfold fPQ; rw [allN_two]; unfold fP fQ; rw [allN_leaf, allN_leaf]; rfl
theorem fPQ_chk : chk fPQ 0 = .ok (0 + fPQ.size) := chk_fine fPQ 0 fPQ_fine (by rw [fPQ_size]; omega)
theorem fPQ_plain : Plain fPQ := by
  rw [plain_iff, fPQ_nodes]; intro g hg; simp at hg
  rcases hg with rfl | rfl | rfl <;> decide
theorem fPQ_names : nmsU fPQ = [[112], [113]] := by
  (refine rising_ext (nmsU_rising _) (by decide) fun t => ?_); rw [nmsU_mem]; unfold nmsT; rw [fPQ_nodes]; simp [nmsOf, fPQ, fP, fQ]
theorem fPQ_ncode : fPQ.ncode = (0, 0) := by
  unfold Fm.ncode; rw [pcode_of fPQ_chk fPQ_plain, fPQ_names]; rfl
theorem fPQ_col : colL fPQ [[112], [113]] = [true, false, true, true] := by
  unfold colL
  have : ∀ r, tv (colP r [[112], [113]]) fPQ = (!(colP r [[112], [113]] [112]) || colP r [[112], [113]] [113]) := fun r => by
    unfold fPQ; rw [tv_then]; unfold fP fQ; rw [tv_name, tv_name]
  simp only [this]
  decide

theorem nand_tq {w : World} {b c : Nat} {T T' : TypeId} (hb : w.heap[b]? = some (.cells #[.bool true, .bool true, .bool true, .bool false] T (0, 0))) (hc : w.heap[c]? = some (.cells #[.int .i64 2, .slice (some ⟨b, 0, none⟩) 4 4] T' (0, 0))) : TQ w (.slice (some ⟨c, 0, none⟩) 1 1) (raws [⟨2, [true, true, true, false]⟩]) := by
  (refine ⟨some ⟨c, 0, none⟩, 1, rfl, by decide, by simp [maxLen], fun _ => ⟨c, 0, rfl, fun j t ht => ?_⟩⟩)
  rcases j with _ | j
  · simp [raws] at ht
    subst ht; (refine ⟨some ⟨b, 0, none⟩, 4, blk_cell hc 0, blk_cell hc 1, some ⟨b, 0, none⟩, 4, rfl, by decide, by simp [maxLen], fun _ => ⟨b, 0, rfl, fun i x hx => ?_⟩⟩); rw [Nat.zero_add, blk_cell hb]
    rcases i with _ | _ | _ | _ | i <;> simp at hx ⊢ <;> exact hx
  · simp [raws] at ht
theorem one_text {w : World} {b : Nat} {T : TypeId} {t : List UInt8} (hb : w.heap[b]? = some (.cells #[.string ⟨t.toArray⟩] T (0, 0))) : TL w (.slice (some ⟨b, 0, none⟩) 1 1) [t] := by
  (refine ⟨some ⟨b, 0, none⟩, 1, rfl, by simp, by simp [maxLen], fun _ => ⟨b, rfl, fun j x hx => ?_⟩⟩)
  rcases j with _ | j
  · simp at hx; subst hx; exact blk_cell hb 0
  · simp at hx

set_option maxHeartbeats 4000000 in
theorem truthBegun_any (w : World) : Calls Try.prog 10 #[] w fun e w' => e = .returned (.bool true) ∧ Below w.heap.size w w' := by
  (have hva := fun v (w : World) h => valid_yes fPQ (by rw [fPQ_ncode]) v w h); rw [fPQ_names, fPQ_col] at hva; (have e1 : (if false ∈ [true, false, true, true] then rowN ([true, false, true, true].idxOf false) [[112], [113]] 0 else []) = [[112]] := by decide); (have e2 : decide (false ∉ [true, false, true, true]) = false := by decide); rw [e1, e2] at hva; (have hco := fun v (w : World) h => complete_yes [⟨2, [true, true, true, false]⟩] (by decide) (fun t ht => by simp at ht; subst ht; exact ⟨by decide, by decide⟩) v w h); (have e3 : compC [⟨2, [true, true, true, false]⟩] 5 = true := by decide)
  have e4 : allV [⟨2, [true, true, true, false]⟩] 5 0 = .bool false ∧ allV [⟨2, [true, true, true, false]⟩] 5 1 = .bool false ∧ allV [⟨2, [true, true, true, false]⟩] 5 2 = .bool false ∧ allV [⟨2, [true, true, true, false]⟩] 5 3 = .bool false ∧ allV [⟨2, [true, true, true, false]⟩] 5 4 = .bool false := by
    (refine ⟨?_, ?_, ?_, ?_, ?_⟩ <;> rfl)
  rw [e3, e4.1, e4.2.1, e4.2.2.1, e4.2.2.2.1, e4.2.2.2.2] at hco; (have HVa : Hid (∀ v w, Rep w (fun _ => True) fPQ v → Calls Try.prog 24 #[v] w _) := hva); have HCo : Hid (∀ v w, TQ w v (raws [⟨2, [true, true, true, false]⟩]) → Calls Try.prog 8 #[v] w _) := hco; clear hva hco e1 e2 e3 e4
  go_enter Try.func10, Try.ntmps10
  go_wp2_with (first
    | (go_at_call 37
       have x2 := hb1; refine (named_any _ _).mono ?_; rintro e w2 ⟨rfl, hb2⟩
       have B2 := below_join hb1 hb2)
    | (go_at_call 37
       refine (named_any _ _).mono ?_
       rintro e w1 ⟨rfl, hb1⟩)
    | (go_at_call 25
       (refine (both_any 7 fP fQ _ _ _ (Rep.leaf (by decide)) (Rep.leaf (by decide))).mono ?_); rintro e w3 ⟨x, rfl, hr3, hb3⟩
       have B3 := below_join B2 hb3)
    | (go_at_call 24
       refine (HVa.out _ _ hr3).mono ?_; rintro e w4 ⟨x, rfl, htl, hb4⟩; have HTL : Hid (TL w4 x [[112]]) := htl; obtain ⟨adT, cpT, rfl, -⟩ := htl
       have B4 := below_join B3 hb4)
    | (go_at_call 8
       have m1 := blk_sec w4 (.cells #[.int .i64 0, .int .i64 0] 25 (0, 0)) (.cells #[.bool true, .bool true, .bool true, .bool false] 4 (0, 0)); have m2 := blk_sec (w4.alloc (.cells #[.int .i64 0, .int .i64 0] 25 (0, 0))) (.cells #[.bool true, .bool true, .bool true, .bool false] 4 (0, 0)) (.cells #[.int .i64 2, .slice (some ⟨w4.heap.size + 1, 0, none⟩) 4 4] 33 (0, 0)); (rw [show (w4.alloc (.cells #[.int .i64 0, .int .i64 0] 25 (0, 0))).heap.size = w4.heap.size + 1 by simp] at m2); refine (HCo.out _ _ (nand_tq (alloc_keep m1 _) m2)).mono ?_; rintro e w5 ⟨rfl, hb5⟩; have q4 := below_keep hb5 (alloc_keep (alloc_keep (blk_new w4 (.cells #[.int .i64 0, .int .i64 0] 25 (0, 0))) _) _); have B5 := below_join (below_more (below_more (below_more B4 _) _) _) hb5; have HTL5 : Hid (TL w5 (.slice adT 1 cpT) [[112]]) := (HTL.out.up (((below_more (below_more (below_more (Below.refl _ w4) _) _) _)))).up hb5; obtain ⟨k1, k2, -⟩ := blk2 q4
       have l4 := lt_of_block q4)
    | (go_at_call 38
       have m3 := blk_new ((w5.alloc (.cells #[.bool false, .bool false, .bool false, .bool false, .bool false] 23 (0, 0))).alloc (.cells #[.int .i64 0, .int .i64 0] 25 (0, 0))) (.cells #[.string ⟨#[112]⟩] 9 (0, 0)); (rw [show ((w5.alloc (.cells #[.bool false, .bool false, .bool false, .bool false, .bool false] 23 (0, 0))).alloc (.cells #[.int .i64 0, .int .i64 0] 25 (0, 0))).heap.size = w5.heap.size + 1 + 1 by simp] at m3); refine (texts_same [[112]] _ _ _ (HTL5.out.up (below_more (below_more (below_more (Below.refl _ w5) _) _) _)) (one_text m3)).mono ?_; rintro e w6 ⟨rfl, hb6⟩
       have B6 := below_join (below_more (below_more (below_more B5 _) _) _) hb6)
    | fail)
  go_ret; exact ⟨rfl, B6⟩
end Go.Proofs.Ytmahgfgndfcmpab
/- Walks: bits; Rows and Valid in one. -/
namespace Go.Proofs.Ytmahgfgndfcmpab
open Go.RowKit Go.Sort

def Fm.wit (f : Fm) : List (List UInt8) := if f.ncode.1 = 0 then (if false ∈ colL f (nmsU f) then rowN ((colL f (nmsU f)).idxOf false) (nmsU f) 0 else []) else []
def Fm.isV (f : Fm) : Bool := decide (f.ncode.1 = 0) && decide (false ∉ colL f (nmsU f))

theorem valid_any (f : Fm) (v : Value) (w : World) (hrep : Rep w (fun _ => True) f v) :
    Calls Try.prog 24 #[v] w fun e w' => ∃ x, e = .returned (.tuple #[.bool f.isV, x, .agg #[.int .i64 f.ncode.1, .int .i64 f.ncode.2]]) ∧ TL w' x f.wit ∧ Below w.heap.size w w' := by
  by_cases h : f.ncode.1 = 0
  · have h' := (ncode_ok h).1
    unfold Fm.isV Fm.wit; rw [if_pos h, decide_eq_true h, Bool.true_and, h']; exact valid_yes f h v w hrep
  · unfold Fm.isV Fm.wit
    rw [if_neg h, decide_eq_false h, Bool.false_and]; refine (valid_no f f.ncode.1 f.ncode.2 h rfl v w hrep).mono ?_; rintro e w' ⟨rfl, hb⟩; exact ⟨_, rfl, TL.nil, hb⟩
end Go.Proofs.Ytmahgfgndfcmpab
/- The plain mathematics of TruthValues: a row as a list of names, and as digits. -/
namespace Go.Proofs.Ytmahgfgndfcmpab
open Go.Sort

theorem tv_congr (p q : List UInt8 → Bool) : ∀ (m : Nat) (f : Fm), f.size ≤ m → Fine f → (∀ t ∈ nmsT f, p t = q t) → tv p f = tv q f
  | 0, .mk k n ks, h, _, _ => by rw [Fm.size] at h; omega
  | m + 1, f, h, hf, hpq => by
    rcases hf.forms with ⟨n, rfl, hn⟩ | rfl | rfl | ⟨k, g, hk, rfl, hg⟩ | ⟨k, g, g', hk, rfl, hg, hg'⟩
    · rw [tv_name, tv_name]
      (exact hpq _ (by unfold nmsT; rw [allN_leaf]; simp [nmsOf]))
    · rw [tv_true, tv_true]
    · rw [tv_false, tv_false]
    · rw [size_one] at h
      have hsub : ∀ t ∈ nmsT g, t ∈ nmsT (.mk k ⟨#[]⟩ [g]) := fun t ht => by
        unfold nmsT at *; rw [allN_one, nmsOf]
        split
        · rw [List.map_cons]; exact List.mem_cons_of_mem _ ht
        · exact ht
      (have ih := tv_congr p q m g (by omega) hg fun t ht => hpq t (hsub t ht)); rw [tv, tvs, tvs, tv, tvs, tvs, ih]
      rcases hk with rfl | rfl | rfl <;> rfl
    · rw [size_two] at h
      have hsub : ∀ t, t ∈ nmsT g ∨ t ∈ nmsT g' → t ∈ nmsT (.mk k ⟨#[]⟩ [g, g']) := fun t ht => by
        unfold nmsT at *; rw [allN_two, nmsOf]
        have : t ∈ (nmsOf (allN g ++ allN g')).map (·.data.toList) := by
          rw [nmsOf_append, List.map_append, List.mem_append]; exact ht
        split
        · rw [List.map_cons]; exact List.mem_cons_of_mem _ this
        · exact this
      (have ih := tv_congr p q m g (by omega) hg fun t ht => hpq t (hsub t (Or.inl ht))); (have ih' := tv_congr p q m g' (by omega) hg' fun t ht => hpq t (hsub t (Or.inr ht))); rw [tv, tvs, tvs, tvs, tv, tvs, tvs, tvs, ih, ih']
      rcases hk with rfl | rfl | rfl <;> rfl

end Go.Proofs.Ytmahgfgndfcmpab
