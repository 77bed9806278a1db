/- Texts of one proof, one behind the other: TY1. -/
import Derived.Test.YtlmjnglcdgkomaaB23
import Derived.Test.YtlmjnglcdgkomaaB21
import Derived.Test.YtlmjnglcdgkomaaB12
/- Walks: two formulas made one. -/
namespace Go.Proofs.Ytlmjnglcdgkomaa
open Go.RowKit Go.Sort

set_option maxHeartbeats 1000000 in
theorem both_any (k : Int) (f g : Fm) (v u : Value) (w : World) (hv : Rep w (fun _ => True) f v) (hu : Rep w (fun _ => True) g u) :
    Calls Try.prog 65 #[.int .i64 k, v, u] w fun e w' => ∃ x, e = .returned x ∧ Rep w' (fun _ => True) (.mk k ⟨#[]⟩ [f, g]) x ∧ Below w.heap.size w w' := by
  obtain ⟨k1, n1, ks1⟩ := f; obtain ⟨k2, n2, ks2⟩ := g; obtain ⟨sl1, cp1, rfl⟩ := slice_shape hv; obtain ⟨sl2, cp2, rfl⟩ := slice_shape hu; (have HV : Hid (Rep w (fun _ => True) (.mk k1 n1 ks1) (.agg #[.int .i64 k1, .string n1, .slice sl1 ks1.length cp1])) := hv); (have HU : Hid (Rep w (fun _ => True) (.mk k2 n2 ks2) (.agg #[.int .i64 k2, .string n2, .slice sl2 ks2.length cp2])) := hu); clear hv hu
  go_enter Try.func65, Try.ntmps65
  go_wp2_with fail; have q := blk_new (((w.alloc (.cells #[.int .i64 k1, .string n1, .slice sl1 ks1.length cp1] 24 (0, 0))).alloc (.cells #[.int .i64 k2, .string n2, .slice sl2 ks2.length cp2] 24 (0, 0))).alloc (.cells #[.int .i64 k, .string ⟨#[]⟩, .slice (some ⟨w.heap.size + 1 + 1 + 1, 0, none⟩) 2 2] 24 (0, 0))) (.cells #[.int .i64 k1, .string n1, .slice sl1 ks1.length cp1, .int .i64 k2, .string n2, .slice sl2 ks2.length cp2] 24 (0, 0)); (rw [show (((w.alloc (.cells #[.int .i64 k1, .string n1, .slice sl1 ks1.length cp1] 24 (0, 0))).alloc (.cells #[.int .i64 k2, .string n2, .slice sl2 ks2.length cp2] 24 (0, 0))).alloc (.cells #[.int .i64 k, .string ⟨#[]⟩, .slice (some ⟨w.heap.size + 1 + 1 + 1, 0, none⟩) 2 2] 24 (0, 0))).heap.size = w.heap.size + 1 + 1 + 1 by simp] at q); have B := below_more (below_more (below_more (below_more (Below.refl _ w) (.cells #[.int .i64 k1, .string n1, .slice sl1 ks1.length cp1] 24 (0, 0))) (.cells #[.int .i64 k2, .string n2, .slice sl2 ks2.length cp2] 24 (0, 0))) (.cells #[.int .i64 k, .string ⟨#[]⟩, .slice (some ⟨w.heap.size + 1 + 1 + 1, 0, none⟩) 2 2] 24 (0, 0))) (.cells #[.int .i64 k1, .string n1, .slice sl1 ks1.length cp1, .int .i64 k2, .string n2, .slice sl2 ks2.length cp2] 24 (0, 0)); (exact bodyPost_ret (v := .agg #[.int .i64 k, .string ⟨#[]⟩, .slice (some ⟨w.heap.size + 1 + 1 + 1, 0, none⟩) 2 2]) (by simp [results, Try.results65, go_sem]) rfl ⟨_, rfl, Rep.two q trivial (HV.out.up B) (HU.out.up B), B⟩)

/-! The document's examples. -/
def fP : Fm := .mk 1 ⟨#[112]⟩ []
def fQ : Fm := .mk 1 ⟨#[113]⟩ []
def fPQ : Fm := .mk 7 ⟨#[]⟩ [fP, fQ]

theorem fPQ_fine : Fine fPQ := fine_two 7 fP fQ (by decide) (by have := fine_name (l := [112]) (by decide); exact this) (by have := fine_name (l := [113]) (by decide); exact this)
theorem fPQ_size : fPQ.size = 3 := by simp [fPQ, fP, fQ, Fm.size, Fm.sizes]
theorem fPQ_nodes : allN fPQ = [fPQ, fP, fQ] := by
  unfold fPQ; rw [allN_two]; unfold fP fQ; rw [allN_leaf, allN_leaf]; rfl
theorem fPQ_chk : chk fPQ 0 = .ok (0 + fPQ.size) := chk_fine fPQ 0 fPQ_fine (by rw [fPQ_size]; omega)
theorem fPQ_plain : Plain fPQ := by
  rw [plain_iff, fPQ_nodes]; intro g hg; simp at hg
  rcases hg with rfl | rfl | rfl <;> decide
theorem fPQ_names : nmsU fPQ = [[112], [113]] := by
  (refine rising_ext (nmsU_rising _) (by decide) fun t => ?_); rw [nmsU_mem]; unfold nmsT; rw [fPQ_nodes]; simp [nmsOf, fPQ, fP, fQ]
theorem fPQ_ncode : fPQ.ncode = (0, 0) := by
  unfold Fm.ncode; rw [pcode_of fPQ_chk fPQ_plain, fPQ_names]; rfl
theorem fPQ_col : colL fPQ [[112], [113]] = [true, false, true, true] := by
  unfold colL
  have : ∀ r, tv (colP r [[112], [113]]) fPQ = (!(colP r [[112], [113]] [112]) || colP r [[112], [113]] [113]) := fun r => by
    unfold fPQ; rw [tv_then]; unfold fP fQ; rw [tv_name, tv_name]
  simp only [this]
  decide

theorem nand_tq {w : World} {b c : Nat} {T T' : TypeId} (hb : w.heap[b]? = some (.cells #[.bool true, .bool true, .bool true, .bool false] T (0, 0))) (hc : w.heap[c]? = some (.cells #[.int .i64 2, .slice (some ⟨b, 0, none⟩) 4 4] T' (0, 0))) : TQ w (.slice (some ⟨c, 0, none⟩) 1 1) (raws [⟨2, [true, true, true, false]⟩]) := by
  (refine ⟨some ⟨c, 0, none⟩, 1, rfl, by decide, by simp [maxLen], fun _ => ⟨c, 0, rfl, fun j t ht => ?_⟩⟩)
  rcases j with _ | j
  · simp [raws] at ht
    subst ht; (refine ⟨some ⟨b, 0, none⟩, 4, blk_cell hc 0, blk_cell hc 1, some ⟨b, 0, none⟩, 4, rfl, by decide, by simp [maxLen], fun _ => ⟨b, 0, rfl, fun i x hx => ?_⟩⟩); rw [Nat.zero_add, blk_cell hb]
    rcases i with _ | _ | _ | _ | i <;> simp at hx ⊢ <;> exact hx
  · simp [raws] at ht
theorem one_text {w : World} {b : Nat} {T : TypeId} {t : List UInt8} (hb : w.heap[b]? = some (.cells #[.string ⟨t.toArray⟩] T (0, 0))) : TL w (.slice (some ⟨b, 0, none⟩) 1 1) [t] := by
  (refine ⟨some ⟨b, 0, none⟩, 1, rfl, by simp, by simp [maxLen], fun _ => ⟨b, rfl, fun j x hx => ?_⟩⟩)
  rcases j with _ | j
  · simp at hx; subst hx; exact blk_cell hb 0
  · simp at hx

set_option maxHeartbeats 4000000 in
theorem truthBegun_any (w : World) : Calls Try.prog 33 #[] w fun e w' => e = .returned (.bool true) ∧ Below w.heap.size w w' := by
  (have hva := fun v (w : World) h => valid_yes fPQ (by rw [fPQ_ncode]) v w h); rw [fPQ_names, fPQ_col] at hva; (have e1 : (if false ∈ [true, false, true, true] then rowN ([true, false, true, true].idxOf false) [[112], [113]] 0 else []) = [[112]] := by decide); (have e2 : decide (false ∉ [true, false, true, true]) = false := by decide); rw [e1, e2] at hva; (have hco := fun v (w : World) h => complete_yes [⟨2, [true, true, true, false]⟩] (by decide) (fun t ht => by simp at ht; subst ht; exact ⟨by decide, by decide⟩) v w h); (have e3 : compC [⟨2, [true, true, true, false]⟩] 5 = true := by decide)
  have e4 : allV [⟨2, [true, true, true, false]⟩] 5 0 = .bool false ∧ allV [⟨2, [true, true, true, false]⟩] 5 1 = .bool false ∧ allV [⟨2, [true, true, true, false]⟩] 5 2 = .bool false ∧ allV [⟨2, [true, true, true, false]⟩] 5 3 = .bool false ∧ allV [⟨2, [true, true, true, false]⟩] 5 4 = .bool false := by
    (refine ⟨?_, ?_, ?_, ?_, ?_⟩ <;> rfl)
  rw [e3, e4.1, e4.2.1, e4.2.2.1, e4.2.2.2.1, e4.2.2.2.2] at hco; (have HVa : Hid (∀ v w, Rep w (fun _ => True) fPQ v → Calls Try.prog 36 #[v] w _) := hva); have HCo : Hid (∀ v w, TQ w v (raws [⟨2, [true, true, true, false]⟩]) → Calls Try.prog 66 #[v] w _) := hco; clear hva hco e1 e2 e3 e4
  go_enter Try.func33, Try.ntmps33
  go_wp2_with (first
    | (go_at_call 31
       have x2 := hb1; refine (named_any _ _).mono ?_; rintro e w2 ⟨rfl, hb2⟩
       have B2 := below_join hb1 hb2)
    | (go_at_call 31
       refine (named_any _ _).mono ?_
       rintro e w1 ⟨rfl, hb1⟩)
    | (go_at_call 65
       (refine (both_any 7 fP fQ _ _ _ (Rep.leaf (by decide)) (Rep.leaf (by decide))).mono ?_); rintro e w3 ⟨x, rfl, hr3, hb3⟩
       have B3 := below_join B2 hb3)
    | (go_at_call 36
       refine (HVa.out _ _ hr3).mono ?_; rintro e w4 ⟨x, rfl, htl, hb4⟩; have HTL : Hid (TL w4 x [[112]]) := htl; obtain ⟨adT, cpT, rfl, -⟩ := htl
       have B4 := below_join B3 hb4)
    | (go_at_call 66
       have m1 := blk_sec w4 (.cells #[.int .i64 0, .int .i64 0] 29 (0, 0)) (.cells #[.bool true, .bool true, .bool true, .bool false] 4 (0, 0)); have m2 := blk_sec (w4.alloc (.cells #[.int .i64 0, .int .i64 0] 29 (0, 0))) (.cells #[.bool true, .bool true, .bool true, .bool false] 4 (0, 0)) (.cells #[.int .i64 2, .slice (some ⟨w4.heap.size + 1, 0, none⟩) 4 4] 100 (0, 0)); (rw [show (w4.alloc (.cells #[.int .i64 0, .int .i64 0] 29 (0, 0))).heap.size = w4.heap.size + 1 by simp] at m2); refine (HCo.out _ _ (nand_tq (alloc_keep m1 _) m2)).mono ?_; rintro e w5 ⟨rfl, hb5⟩; have q4 := below_keep hb5 (alloc_keep (alloc_keep (blk_new w4 (.cells #[.int .i64 0, .int .i64 0] 29 (0, 0))) _) _); have B5 := below_join (below_more (below_more (below_more B4 _) _) _) hb5; have HTL5 : Hid (TL w5 (.slice adT 1 cpT) [[112]]) := (HTL.out.up (((below_more (below_more (below_more (Below.refl _ w4) _) _) _)))).up hb5; obtain ⟨k1, k2, -⟩ := blk2 q4
       have l4 := lt_of_block q4)
    | (go_at_call 23
       have m3 := blk_new ((w5.alloc (.cells #[.bool false, .bool false, .bool false, .bool false, .bool false] 96 (0, 0))).alloc (.cells #[.int .i64 0, .int .i64 0] 29 (0, 0))) (.cells #[.string ⟨#[112]⟩] 9 (0, 0)); (rw [show ((w5.alloc (.cells #[.bool false, .bool false, .bool false, .bool false, .bool false] 96 (0, 0))).alloc (.cells #[.int .i64 0, .int .i64 0] 29 (0, 0))).heap.size = w5.heap.size + 1 + 1 by simp] at m3); refine (texts_same [[112]] _ _ _ (HTL5.out.up (below_more (below_more (below_more (Below.refl _ w5) _) _) _)) (one_text m3)).mono ?_; rintro e w6 ⟨rfl, hb6⟩
       have B6 := below_join (below_more (below_more (below_more B5 _) _) _) hb6)
    | fail)
  go_ret; exact ⟨rfl, B6⟩
end Go.Proofs.Ytlmjnglcdgkomaa
