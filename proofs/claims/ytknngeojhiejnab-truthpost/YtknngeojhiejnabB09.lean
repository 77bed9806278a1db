/- Texts of one proof, one behind the other: TY1, TY2, TY4, TP1, TP2. -/
import Derived.Test.YtknngeojhiejnabB08
/- Walks: two formulas made one. -/
namespace Go.Proofs.Ytknngeojhiejnab
open Go.RowKit Go.Sort

set_option maxHeartbeats 1000000 in
theorem both_any (k : Int) (f g : Fm) (v u : Value) (w : World) (hv : Rep w (fun _ => True) f v) (hu : Rep w (fun _ => True) g u) :
    Calls Try.prog 25 #[.int .i64 k, v, u] w fun e w' => ∃ x, e = .returned x ∧ Rep w' (fun _ => True) (.mk k ⟨#[]⟩ [f, g]) x ∧ Below w.heap.size w w' := by
  obtain ⟨k1, n1, ks1⟩ := f
  obtain ⟨k2, n2, ks2⟩ := g
  obtain ⟨sl1, cp1, rfl⟩ := slice_shape hv
  obtain ⟨sl2, cp2, rfl⟩ := slice_shape hu
  have HV : Hid (Rep w (fun _ => True) (.mk k1 n1 ks1) (.agg #[.int .i64 k1, .string n1, .slice sl1 ks1.length cp1])) := hv
  have HU : Hid (Rep w (fun _ => True) (.mk k2 n2 ks2) (.agg #[.int .i64 k2, .string n2, .slice sl2 ks2.length cp2])) := hu
  clear hv hu
  go_enter Try.func25, Try.ntmps25
  go_wp2_with fail
  have q := blk_new (((w.alloc (.cells #[.int .i64 k1, .string n1, .slice sl1 ks1.length cp1] 37 (0, 0))).alloc (.cells #[.int .i64 k2, .string n2, .slice sl2 ks2.length cp2] 37 (0, 0))).alloc (.cells #[.int .i64 k, .string ⟨#[]⟩, .slice (some ⟨w.heap.size + 1 + 1 + 1, 0, none⟩) 2 2] 37 (0, 0))) (.cells #[.int .i64 k1, .string n1, .slice sl1 ks1.length cp1, .int .i64 k2, .string n2, .slice sl2 ks2.length cp2] 37 (0, 0))
  rw [show (((w.alloc (.cells #[.int .i64 k1, .string n1, .slice sl1 ks1.length cp1] 37 (0, 0))).alloc (.cells #[.int .i64 k2, .string n2, .slice sl2 ks2.length cp2] 37 (0, 0))).alloc (.cells #[.int .i64 k, .string ⟨#[]⟩, .slice (some ⟨w.heap.size + 1 + 1 + 1, 0, none⟩) 2 2] 37 (0, 0))).heap.size = w.heap.size + 1 + 1 + 1 by simp] at q
  have B := below_more (below_more (below_more (below_more (Below.refl _ w) (.cells #[.int .i64 k1, .string n1, .slice sl1 ks1.length cp1] 37 (0, 0))) (.cells #[.int .i64 k2, .string n2, .slice sl2 ks2.length cp2] 37 (0, 0))) (.cells #[.int .i64 k, .string ⟨#[]⟩, .slice (some ⟨w.heap.size + 1 + 1 + 1, 0, none⟩) 2 2] 37 (0, 0))) (.cells #[.int .i64 k1, .string n1, .slice sl1 ks1.length cp1, .int .i64 k2, .string n2, .slice sl2 ks2.length cp2] 37 (0, 0))
  exact bodyPost_ret (v := .agg #[.int .i64 k, .string ⟨#[]⟩, .slice (some ⟨w.heap.size + 1 + 1 + 1, 0, none⟩) 2 2]) (by simp [results, Try.results25, go_sem]) rfl ⟨_, rfl, Rep.two q trivial (HV.out.up B) (HU.out.up B), B⟩

/-! The document's examples. -/
def fP : Fm := .mk 1 ⟨#[112]⟩ []
def fQ : Fm := .mk 1 ⟨#[113]⟩ []
def fPQ : Fm := .mk 7 ⟨#[]⟩ [fP, fQ]

theorem fPQ_fine : Fine fPQ := fine_two 7 fP fQ (by decide) (by have := fine_name (l := [112]) (by decide); exact this) (by have := fine_name (l := [113]) (by decide); exact this)
theorem fPQ_size : fPQ.size = 3 := by simp [fPQ, fP, fQ, Fm.size, Fm.sizes]
theorem fPQ_nodes : allN fPQ = [fPQ, fP, fQ] := by
  unfold fPQ
  rw [allN_two]
  unfold fP fQ
  rw [allN_leaf, allN_leaf]
  rfl
theorem fPQ_chk : chk fPQ 0 = .ok (0 + fPQ.size) := chk_fine fPQ 0 fPQ_fine (by rw [fPQ_size]; omega)
theorem fPQ_plain : Plain fPQ := by
  rw [plain_iff, fPQ_nodes]
  intro g hg
  simp at hg
  rcases hg with rfl | rfl | rfl <;> decide
theorem fPQ_names : nmsU fPQ = [[112], [113]] := by
  refine rising_ext (nmsU_rising _) (by decide) fun t => ?_
  rw [nmsU_mem]
  unfold nmsT
  rw [fPQ_nodes]
  simp [nmsOf, fPQ, fP, fQ]
theorem fPQ_ncode : fPQ.ncode = (0, 0) := by
  unfold Fm.ncode
  rw [pcode_of fPQ_chk fPQ_plain, fPQ_names]
  rfl
theorem fPQ_col : colL fPQ [[112], [113]] = [true, false, true, true] := by
  unfold colL
  have : ∀ r, tv (colP r [[112], [113]]) fPQ = (!(colP r [[112], [113]] [112]) || colP r [[112], [113]] [113]) := fun r => by
    unfold fPQ
    rw [tv_then]
    unfold fP fQ
    rw [tv_name, tv_name]
  simp only [this]
  decide

theorem nand_tq {w : World} {b c : Nat} {T T' : TypeId} (hb : w.heap[b]? = some (.cells #[.bool true, .bool true, .bool true, .bool false] T (0, 0))) (hc : w.heap[c]? = some (.cells #[.int .i64 2, .slice (some ⟨b, 0, none⟩) 4 4] T' (0, 0))) : TQ w (.slice (some ⟨c, 0, none⟩) 1 1) (raws [⟨2, [true, true, true, false]⟩]) := by
  refine ⟨some ⟨c, 0, none⟩, 1, rfl, by decide, by simp [maxLen], fun _ => ⟨c, 0, rfl, fun j t ht => ?_⟩⟩
  rcases j with _ | j
  · simp [raws] at ht
    subst ht
    refine ⟨some ⟨b, 0, none⟩, 4, blk_cell hc 0, blk_cell hc 1, some ⟨b, 0, none⟩, 4, rfl, by decide, by simp [maxLen], fun _ => ⟨b, 0, rfl, fun i x hx => ?_⟩⟩
    rw [Nat.zero_add, blk_cell hb]
    rcases i with _ | _ | _ | _ | i <;> simp at hx ⊢ <;> exact hx
  · simp [raws] at ht
theorem one_text {w : World} {b : Nat} {T : TypeId} {t : List UInt8} (hb : w.heap[b]? = some (.cells #[.string ⟨t.toArray⟩] T (0, 0))) : TL w (.slice (some ⟨b, 0, none⟩) 1 1) [t] := by
  refine ⟨some ⟨b, 0, none⟩, 1, rfl, by simp, by simp [maxLen], fun _ => ⟨b, rfl, fun j x hx => ?_⟩⟩
  rcases j with _ | j
  · simp at hx; subst hx; exact blk_cell hb 0
  · simp at hx

set_option maxHeartbeats 4000000 in
theorem truthBegun_any (w : World) : Calls Try.prog 10 #[] w fun e w' => e = .returned (.bool true) ∧ Below w.heap.size w w' := by
  have hva := fun v (w : World) h => valid_yes fPQ (by rw [fPQ_ncode]) v w h
  rw [fPQ_names, fPQ_col] at hva
  have e1 : (if false ∈ [true, false, true, true] then rowN ([true, false, true, true].idxOf false) [[112], [113]] 0 else []) = [[112]] := by decide
  have e2 : decide (false ∉ [true, false, true, true]) = false := by decide
  rw [e1, e2] at hva
  have hco := fun v (w : World) h => complete_yes [⟨2, [true, true, true, false]⟩] (by decide) (fun t ht => by simp at ht; subst ht; exact ⟨by decide, by decide⟩) v w h
  have e3 : compC [⟨2, [true, true, true, false]⟩] 5 = true := by decide
  have e4 : allV [⟨2, [true, true, true, false]⟩] 5 0 = .bool false ∧ allV [⟨2, [true, true, true, false]⟩] 5 1 = .bool false ∧ allV [⟨2, [true, true, true, false]⟩] 5 2 = .bool false ∧ allV [⟨2, [true, true, true, false]⟩] 5 3 = .bool false ∧ allV [⟨2, [true, true, true, false]⟩] 5 4 = .bool false := by
    refine ⟨?_, ?_, ?_, ?_, ?_⟩ <;> rfl
  rw [e3, e4.1, e4.2.1, e4.2.2.1, e4.2.2.2.1, e4.2.2.2.2] at hco
  have HVa : Hid (∀ v w, Rep w (fun _ => True) fPQ v → Calls Try.prog 24 #[v] w _) := hva
  have HCo : Hid (∀ v w, TQ w v (raws [⟨2, [true, true, true, false]⟩]) → Calls Try.prog 8 #[v] w _) := hco
  clear hva hco e1 e2 e3 e4
  go_enter Try.func10, Try.ntmps10
  go_wp2_with (first
    | (go_at_call 37
       have x2 := hb1
       refine (named_any _ _).mono ?_
       rintro e w2 ⟨rfl, hb2⟩
       have B2 := below_join hb1 hb2)
    | (go_at_call 37
       refine (named_any _ _).mono ?_
       rintro e w1 ⟨rfl, hb1⟩)
    | (go_at_call 25
       refine (both_any 7 fP fQ _ _ _ (Rep.leaf (by decide)) (Rep.leaf (by decide))).mono ?_
       rintro e w3 ⟨x, rfl, hr3, hb3⟩
       have B3 := below_join B2 hb3)
    | (go_at_call 24
       refine (HVa.out _ _ hr3).mono ?_
       rintro e w4 ⟨x, rfl, htl, hb4⟩
       have HTL : Hid (TL w4 x [[112]]) := htl
       obtain ⟨adT, cpT, rfl, -⟩ := htl
       have B4 := below_join B3 hb4)
    | (go_at_call 8
       have m1 := blk_sec w4 (.cells #[.int .i64 0, .int .i64 0] 25 (0, 0)) (.cells #[.bool true, .bool true, .bool true, .bool false] 4 (0, 0))
       have m2 := blk_sec (w4.alloc (.cells #[.int .i64 0, .int .i64 0] 25 (0, 0))) (.cells #[.bool true, .bool true, .bool true, .bool false] 4 (0, 0)) (.cells #[.int .i64 2, .slice (some ⟨w4.heap.size + 1, 0, none⟩) 4 4] 33 (0, 0))
       rw [show (w4.alloc (.cells #[.int .i64 0, .int .i64 0] 25 (0, 0))).heap.size = w4.heap.size + 1 by simp] at m2
       refine (HCo.out _ _ (nand_tq (alloc_keep m1 _) m2)).mono ?_
       rintro e w5 ⟨rfl, hb5⟩
       have q4 := below_keep hb5 (alloc_keep (alloc_keep (blk_new w4 (.cells #[.int .i64 0, .int .i64 0] 25 (0, 0))) _) _)
       have B5 := below_join (below_more (below_more (below_more B4 _) _) _) hb5
       have HTL5 : Hid (TL w5 (.slice adT 1 cpT) [[112]]) := (HTL.out.up (((below_more (below_more (below_more (Below.refl _ w4) _) _) _)))).up hb5
       obtain ⟨k1, k2, -⟩ := blk2 q4
       have l4 := lt_of_block q4)
    | (go_at_call 38
       have m3 := blk_new ((w5.alloc (.cells #[.bool false, .bool false, .bool false, .bool false, .bool false] 23 (0, 0))).alloc (.cells #[.int .i64 0, .int .i64 0] 25 (0, 0))) (.cells #[.string ⟨#[112]⟩] 9 (0, 0))
       rw [show ((w5.alloc (.cells #[.bool false, .bool false, .bool false, .bool false, .bool false] 23 (0, 0))).alloc (.cells #[.int .i64 0, .int .i64 0] 25 (0, 0))).heap.size = w5.heap.size + 1 + 1 by simp] at m3
       refine (texts_same [[112]] _ _ _ (HTL5.out.up (below_more (below_more (below_more (Below.refl _ w5) _) _) _)) (one_text m3)).mono ?_
       rintro e w6 ⟨rfl, hb6⟩
       have B6 := below_join (below_more (below_more (below_more B5 _) _) _) hb6)
    | fail)
  go_ret
  exact ⟨rfl, B6⟩
end Go.Proofs.Ytknngeojhiejnab
/- Walks: the yardstick's HasText, True, Row. -/
namespace Go.Proofs.Ytknngeojhiejnab
open Go.RowKit Go.Sort

/-! The yardstick's row. -/
theorem half_bit (r i : Nat) : (r / 2 ^ i % 2 = 1) ↔ r.testBit i = true := by
  rw [Nat.testBit_eq_decide_div_mod_eq]; simp

end Go.Proofs.Ytknngeojhiejnab
/- Walks: the yardstick's PlainFault. -/
namespace Go.Proofs.Ytknngeojhiejnab
open Go.RowKit Go.Sort

set_option maxHeartbeats 1000000 in
theorem mkF_any (c a : Int) (w : World) : Calls Try.prog 16 #[.int .i64 c, .int .i64 a] w fun e w' => e = .returned (.agg #[.int .i64 c, .int .i64 a]) ∧ Below w.heap.size w w' := by
  have B := below_more (Below.refl _ w) (.cells #[.int .i64 c, .int .i64 a] 25 (0, 0))
  go_enter Try.func16, Try.ntmps16
  go_wp2_with fail
  exact bodyPost_ret (v := .agg #[.int .i64 c, .int .i64 a]) (by simp [results, Try.results16, go_sem]) rfl ⟨rfl, B⟩

end Go.Proofs.Ytknngeojhiejnab
/- Post's theorem, plain: of two values. -/
namespace Go.Proofs.Ytknngeojhiejnab

/-! Rows as numbers. -/
def idx : Nat → (Nat → Bool) → Nat
  | 0, _ => 0
  | n + 1, v => idx n v + if v n then 2 ^ n else 0

theorem idx_lt : ∀ (n : Nat) (v : Nat → Bool), idx n v < 2 ^ n
  | 0, v => by simp [idx]
  | n + 1, v => by
    have := idx_lt n v
    rw [idx, Nat.pow_succ]
    split <;> omega
theorem idx_bit : ∀ (n : Nat) (v : Nat → Bool) (i : Nat), i < n → (idx n v).testBit i = v i
  | 0, v, i, h => absurd h (Nat.not_lt_zero _)
  | n + 1, v, i, h => by
    have hl := idx_lt n v
    rw [idx]
    by_cases e : i = n
    · subst e
      cases hv : v i
      · simp only [Bool.false_eq_true, if_false, Nat.add_zero]
        exact Nat.testBit_lt_two_pow hl
      · simp only [if_true]
        rw [Nat.add_comm, Nat.testBit_two_pow_add_eq, Nat.testBit_lt_two_pow hl]
        rfl
    · have hi : i < n := by omega
      cases v n
      · simp only [Bool.false_eq_true, if_false, Nat.add_zero]
        exact idx_bit n v i hi
      · simp only [if_true]
        rw [Nat.add_comm, Nat.testBit_two_pow_add_gt hi]
        exact idx_bit n v i hi
theorem bits_ext {n a b : Nat} (ha : a < 2 ^ n) (hb : b < 2 ^ n) (h : ∀ i, i < n → a.testBit i = b.testBit i) : a = b := by
  apply Nat.eq_of_testBit_eq
  intro i
  by_cases hi : i < n
  · exact h i hi
  · have hp : 2 ^ n ≤ 2 ^ i := Nat.pow_le_pow_right (by omega) (by omega)
    rw [Nat.testBit_lt_two_pow (by omega), Nat.testBit_lt_two_pow (by omega)]
theorem idx_of {n k : Nat} (h : k < 2 ^ n) : idx n k.testBit = k := bits_ext (idx_lt _ _) h fun i hi => idx_bit n _ i hi
theorem idx_congr {n : Nat} {v u : Nat → Bool} (h : ∀ i, i < n → v i = u i) : idx n v = idx n u := bits_ext (idx_lt _ _) (idx_lt _ _) fun i hi => by rw [idx_bit n v i hi, idx_bit n u i hi, h i hi]
theorem idx_none {n : Nat} {v : Nat → Bool} (h : ∀ i, i < n → v i = false) : idx n v = 0 := bits_ext (idx_lt _ _) (Nat.two_pow_pos n) fun i hi => by rw [idx_bit n v i hi, h i hi]; simp
theorem idx_not : ∀ (n : Nat) (v : Nat → Bool), idx n (fun i => !v i) + idx n v = 2 ^ n - 1
  | 0, v => by simp [idx]
  | n + 1, v => by
    have := idx_not n v
    have hp := Nat.two_pow_pos n
    rw [idx, idx, Nat.pow_succ]
    cases v n <;> simp <;> omega

/-- What a table tells of values. -/
def Tb.at (t : Tb) (v : Nat → Bool) : Bool := t.bits.getD (idx t.n v) false
theorem Tb.at_congr (t : Tb) {v u : Nat → Bool} (h : ∀ i, i < t.n → v i = u i) : t.at v = t.at u := by
  unfold Tb.at
  rw [idx_congr h]

/-- A table of functions of two values, each a number below 16. -/
def putT (t : Tb) (a : Nat → Nat) : Nat := idx 4 fun r => t.at fun i => (a i).testBit r
inductive Gen (ts : List Tb) : Nat → Prop
  | x : Gen ts 10
  | y : Gen ts 12
  | app (t : Tb) (ht : t ∈ ts) (a : Nat → Nat) (h : ∀ i, i < t.n → Gen ts (a i)) : Gen ts (putT t a)

theorem Gen.lt {ts : List Tb} {f : Nat} (h : Gen ts f) : f < 16 := by
  cases h with
  | x => decide
  | y => decide
  | app t ht a h => exact idx_lt 4 _
theorem putT_bit (t : Tb) (a : Nat → Nat) {r : Nat} (hr : r < 4) : (putT t a).testBit r = t.at fun i => (a i).testBit r := idx_bit 4 _ r hr
theorem Gen.of {ts : List Tb} {t : Tb} (ht : t ∈ ts) (a : Nat → Nat) (h : ∀ i, i < t.n → Gen ts (a i)) {f : Nat} (hf : f < 16) (hv : ∀ r, r < 4 → f.testBit r = t.at fun i => (a i).testBit r) : Gen ts f := by
  have : f = putT t a := bits_ext (n := 4) hf (idx_lt 4 _) fun r hr => by rw [hv r hr, putT_bit t a hr]
  rw [this]
  exact Gen.app t ht a h

/-! What all tables keep is kept. -/
theorem gen_zero {ts : List Tb} (h : ∀ t ∈ ts, cls0 t.bits = true) {f : Nat} (hg : Gen ts f) : f.testBit 0 = false := by
  induction hg with
  | x => decide
  | y => decide
  | app t ht a _ ih =>
    rw [putT_bit t a (by decide)]
    have := h t ht
    unfold cls0 at this
    unfold Tb.at
    rw [idx_none ih]
    simpa using this
theorem gen_one {ts : List Tb} (hok : ∀ t ∈ ts, t.Ok) (h : ∀ t ∈ ts, cls1 t.bits = true) {f : Nat} (hg : Gen ts f) : f.testBit 3 = true := by
  induction hg with
  | x => decide
  | y => decide
  | app t ht a _ ih =>
    rw [putT_bit t a (by decide)]
    have := h t ht
    unfold cls1 at this
    unfold Tb.at
    have h0 := idx_not t.n fun i => (a i).testBit 3
    rw [idx_none (fun i hi => by rw [ih i hi]; rfl), Nat.zero_add] at h0
    rw [h0, ← (hok t ht).2]
    exact this
theorem cls2_at {t : Tb} (hok : t.Ok) (h : cls2 t.bits = true) (v : Nat → Bool) : t.at (fun i => !v i) = !t.at v := by
  unfold cls2 at h
  rw [List.all_eq_true] at h
  have h0 := idx_not t.n v
  have hl := idx_lt t.n v
  have := h (idx t.n v) (List.mem_range.2 (by rw [hok.2]; exact hl))
  unfold Tb.at
  rw [hok.2, show 2 ^ t.n - 1 - idx t.n v = idx t.n (fun i => !v i) by omega] at this
  revert this
  cases t.bits.getD (idx t.n v) false <;> cases t.bits.getD (idx t.n fun i => !v i) false <;> simp
theorem gen_dual {ts : List Tb} (hok : ∀ t ∈ ts, t.Ok) (h : ∀ t ∈ ts, cls2 t.bits = true) {f : Nat} (hg : Gen ts f) : f.testBit 3 = !f.testBit 0 := by
  induction hg with
  | x => decide
  | y => decide
  | app t ht a _ ih =>
    rw [putT_bit t a (by decide), putT_bit t a (by decide), ← cls2_at (hok t ht) (h t ht)]
    exact t.at_congr fun i hi => ih i hi

/-- The first j values of u, the others of v. -/
def mix (u v : Nat → Bool) (j i : Nat) : Bool := if i < j then u i else v i
theorem cls3_at {t : Tb} (hok : t.Ok) (h : cls3 t.n t.bits = true) (v u : Nat → Bool) (hvu : ∀ i, i < t.n → v i = true → u i = true) (hv : t.at v = true) : t.at u = true := by
  unfold cls3 at h
  rw [List.all_eq_true] at h
  have key : ∀ j, j ≤ t.n → t.at (mix u v j) = true := by
    intro j
    induction j with
    | zero => exact fun _ => by rw [← hv]; exact t.at_congr fun i _ => by simp [mix]
    | succ j ih =>
      intro hj
      have h1 := ih (by omega)
      by_cases e : v j = u j
      · rw [← h1]
        refine t.at_congr fun i _ => ?_
        unfold mix
        by_cases hij : i < j
        · rw [if_pos hij, if_pos (by omega)]
        · by_cases hi : i = j
          · subst hi; rw [if_pos (by omega), if_neg hij, e]
          · rw [if_neg (by omega), if_neg hij]
      · have hvj : v j = false := by
          cases hb : v j
          · rfl
          · exact absurd (hb.trans (hvu j (by omega) hb).symm) e
        have huj : u j = true := by
          cases hb : u j
          · exact absurd (hvj.trans hb.symm) e
          · rfl
        have h2 := h (idx t.n (mix u v j)) (List.mem_range.2 (by rw [hok.2]; exact idx_lt _ _))
        rw [List.all_eq_true] at h2
        have h3 := h2 j (List.mem_range.2 (by omega))
        have h4 : idx t.n (mix u v j) ||| 2 ^ j = idx t.n (mix u v (j + 1)) := by
          refine bits_ext (Nat.or_lt_two_pow (idx_lt _ _) (Nat.pow_lt_pow_right (by omega) (by omega))) (idx_lt _ _) fun i hi => ?_
          rw [Nat.testBit_or, idx_bit _ _ i hi, idx_bit _ _ i hi, Nat.testBit_two_pow]
          unfold mix
          by_cases hij : i < j
          · rw [if_pos hij, if_pos (by omega), decide_eq_false (by omega), Bool.or_false]
          · by_cases hi2 : i = j
            · subst hi2; rw [if_neg hij, if_pos (by omega), huj, decide_eq_true rfl, Bool.or_true]
            · rw [if_neg hij, if_neg (by omega), decide_eq_false (by omega), Bool.or_false]
        unfold Tb.at at h1 ⊢
        rw [h4, h1] at h3
        simpa using h3
  rw [← key t.n (Nat.le_refl _)]
  exact t.at_congr fun i hi => by unfold mix; rw [if_pos hi]
theorem gen_rise {ts : List Tb} (hok : ∀ t ∈ ts, t.Ok) (h : ∀ t ∈ ts, cls3 t.n t.bits = true) {f : Nat} (hg : Gen ts f) : f.testBit 0 = true → f.testBit 3 = true := by
  induction hg with
  | x => decide
  | y => decide
  | app t ht a _ ih =>
    rw [putT_bit t a (by decide), putT_bit t a (by decide)]
    exact cls3_at (hok t ht) (h t ht) _ _ ih

/-- A sum of values. -/
def affN (l : List Bool) (v : Nat → Bool) : Nat → Bool
  | 0 => l.getD 0 false
  | i + 1 => affN l v i ^^ ((l.getD (2 ^ i) false ^^ l.getD 0 false) && v i)
theorem sumTo_aff (l : List Bool) (v : Nat → Bool) : ∀ (k r : Nat), (∀ i, i < k → r.testBit i = v i) → sumTo l r k = affN l v k
  | 0, r, _ => rfl
  | k + 1, r, h => by
    rw [sumTo, affN, sumTo_aff l v k r fun i hi => h i (by omega), h k (by omega)]
    cases l.getD (2 ^ k) false <;> cases l.getD 0 false <;> cases v k <;> cases affN l v k <;> rfl
theorem cls4_at {t : Tb} (hok : t.Ok) : cls4 t.n t.bits = true ↔ ∀ v, t.at v = affN t.bits v t.n := by
  unfold cls4
  rw [List.all_eq_true]
  constructor
  · intro h v
    have := h (idx t.n v) (List.mem_range.2 (by rw [hok.2]; exact idx_lt _ _))
    rw [sumTo_aff t.bits v t.n (idx t.n v) fun i hi => idx_bit _ _ i hi] at this
    unfold Tb.at
    revert this
    cases affN t.bits v t.n <;> cases t.bits.getD (idx t.n v) false <;> simp
  · intro h r hr
    have hr' : r < 2 ^ t.n := by rw [← hok.2]; exact List.mem_range.1 hr
    have := h r.testBit
    unfold Tb.at at this
    rw [idx_of hr'] at this
    rw [this, sumTo_aff t.bits r.testBit t.n r fun i _ => rfl]
    simp
theorem aff_four (l : List Bool) (a b c d : Nat → Bool) : ∀ n, (∀ i, i < n → (a i ^^ b i ^^ c i ^^ d i) = false) → (affN l a n ^^ affN l b n ^^ affN l c n ^^ affN l d n) = false
  | 0, _ => by simp [affN]
  | n + 1, h => by
    have h1 := aff_four l a b c d n fun i hi => h i (by omega)
    have h2 := h n (by omega)
    rw [affN, affN, affN, affN]
    revert h1 h2
    cases affN l a n <;> cases affN l b n <;> cases affN l c n <;> cases affN l d n <;> cases a n <;> cases b n <;> cases c n <;> cases d n <;> cases (l.getD (2 ^ n) false ^^ l.getD 0 false) <;> decide
theorem gen_sum {ts : List Tb} (hok : ∀ t ∈ ts, t.Ok) (h : ∀ t ∈ ts, cls4 t.n t.bits = true) {f : Nat} (hg : Gen ts f) : (f.testBit 0 ^^ f.testBit 1 ^^ f.testBit 2 ^^ f.testBit 3) = false := by
  induction hg with
  | x => decide
  | y => decide
  | app t ht a _ ih =>
    have := (cls4_at (hok t ht)).1 (h t ht)
    rw [putT_bit t a (by decide), putT_bit t a (by decide), putT_bit t a (by decide), putT_bit t a (by decide), this, this, this, this]
    exact aff_four t.bits _ _ _ _ t.n ih

/-- What all tables keep, some function does not: not all are made. -/
theorem post_no {ts : List Tb} (hok : ∀ t ∈ ts, t.Ok) {i : Nat} (hi : i < 5) (h : allC ts i = true) : ¬ ∀ f, f < 16 → Gen ts f := by
  intro hg
  have hall : ∀ t ∈ ts, clsT i t = true := fun t ht => by
    unfold allC at h
    rw [Bool.not_eq_true', List.any_eq_false] at h
    simpa using h t ht
  rcases (by omega : i = 0 ∨ i = 1 ∨ i = 2 ∨ i = 3 ∨ i = 4) with rfl | rfl | rfl | rfl | rfl
  · exact absurd (gen_zero hall (hg 1 (by decide))) (by decide)
  · exact absurd (gen_one hok hall (hg 0 (by decide))) (by decide)
  · exact absurd (gen_dual hok hall (hg 0 (by decide))) (by decide)
  · exact absurd (gen_rise hok hall (hg 1 (by decide)) (by decide)) (by decide)
  · exact absurd (gen_sum hok hall (hg 8 (by decide))) (by decide)
end Go.Proofs.Ytknngeojhiejnab
/- Post's theorem, plain: what is in no class makes all. -/
namespace Go.Proofs.Ytknngeojhiejnab

theorem const_bit (c : Bool) {r : Nat} (hr : r < 4) : (if c then 15 else 0 : Nat).testBit r = c := by
  cases c
  · simp
  · rcases (by omega : r = 0 ∨ r = 1 ∨ r = 2 ∨ r = 3) with rfl | rfl | rfl | rfl <;> decide
theorem not_bit {z r : Nat} (hz : z < 16) (hr : r < 4) : (15 - z).testBit r = !z.testBit r := by
  have : ∀ z, z < 16 → ∀ r, r < 4 → (15 - z).testBit r = !z.testBit r := by decide
  exact this z hz r hr
theorem out_of {ts : List Tb} {i : Nat} (h : allC ts i = false) : ∃ t ∈ ts, clsT i t = false := by
  unfold allC at h
  rw [Bool.not_eq_false', List.any_eq_true] at h
  obtain ⟨t, ht, hb⟩ := h
  exact ⟨t, ht, by simpa using hb⟩

/-- The same value for all. -/
theorem at_same {t : Tb} (hok : t.Ok) (b : Bool) : t.at (fun _ => b) = if b then t.bits.getD (t.bits.length - 1) false else t.bits.getD 0 false := by
  unfold Tb.at
  cases b
  · rw [idx_none fun _ _ => rfl]; rfl
  · have h0 := idx_not t.n fun _ => true
    rw [show (idx t.n fun _ => !true) = 0 from idx_none fun _ _ => rfl, Nat.zero_add] at h0
    rw [h0, hok.2]; rfl

section
variable {ts : List Tb} (hok : ∀ t ∈ ts, t.Ok)
include hok

theorem not_by {t : Tb} (ht : t ∈ ts) (h0 : t.bits.getD 0 false = true) (h1 : t.bits.getD (t.bits.length - 1) false = false) {z : Nat} (hz : Gen ts z) : Gen ts (15 - z) :=
  Gen.of ht (fun _ => z) (fun _ _ => hz) (by have := hz.lt; omega) fun r hr => by
    rw [not_bit hz.lt hr, at_same (hok t ht), h0, h1]
    cases z.testBit r <;> rfl
theorem const_by {t : Tb} (ht : t ∈ ts) (c : Bool) (h0 : t.bits.getD 0 false = c) (h1 : t.bits.getD (t.bits.length - 1) false = c) : Gen ts (if c then 15 else 0) :=
  Gen.of ht (fun _ => 10) (fun _ _ => Gen.x) (by cases c <;> decide) fun r hr => by
    rw [const_bit c hr, at_same (hok t ht), h0, h1]
    cases (10 : Nat).testBit r <;> rfl

/-- Opposites, or both constants. -/
theorem post_first (a0 : allC ts 0 = false) (a1 : allC ts 1 = false) : (∀ z, Gen ts z → Gen ts (15 - z)) ∨ (Gen ts 0 ∧ Gen ts 15) := by
  obtain ⟨t, ht, h⟩ := out_of a0
  obtain ⟨u, hu, k⟩ := out_of a1
  have h0 : t.bits.getD 0 false = true := by
    have : cls0 t.bits = false := h
    unfold cls0 at this
    simpa using this
  have k1 : u.bits.getD (u.bits.length - 1) false = false := k
  cases h1 : t.bits.getD (t.bits.length - 1) false
  · exact Or.inl fun z hz => not_by hok ht h0 h1 hz
  · cases k0 : u.bits.getD 0 false
    · exact Or.inr ⟨const_by hok hu false k0 k1, const_by hok ht true h0 h1⟩
    · exact Or.inl fun z hz => not_by hok hu k0 k1 hz

theorem post_consts (a2 : allC ts 2 = false) (hn : ∀ z, Gen ts z → Gen ts (15 - z)) : Gen ts 0 ∧ Gen ts 15 := by
  obtain ⟨t, ht, h⟩ := out_of a2
  have h' : cls2 t.bits = false := h
  unfold cls2 at h'
  rw [List.all_eq_false] at h'
  obtain ⟨k, hk, he⟩ := h'
  have hk' : k < 2 ^ t.n := by rw [← (hok t ht).2]; exact List.mem_range.1 hk
  have he' : t.bits.getD k false = t.bits.getD (t.bits.length - 1 - k) false := by
    revert he
    cases t.bits.getD k false <;> cases t.bits.getD (t.bits.length - 1 - k) false <;> simp
  have e1 : t.at k.testBit = t.bits.getD k false := by unfold Tb.at; rw [idx_of hk']
  have e2 : t.at (fun i => !k.testBit i) = t.bits.getD k false := by
    unfold Tb.at
    have h0 := idx_not t.n k.testBit
    rw [idx_of hk'] at h0
    rw [he', (hok t ht).2, show 2 ^ t.n - 1 - k = idx t.n (fun i => !k.testBit i) by omega]
  have hc : Gen ts (if t.bits.getD k false then 15 else 0) := by
    refine Gen.of ht (fun i => if k.testBit i then 10 else 5) (fun i _ => ?_) (by split <;> decide) fun r hr => ?_
    · show Gen ts (if k.testBit i then 10 else 5)
      split
      · exact Gen.x
      · exact hn 10 Gen.x
    · rw [const_bit _ hr]
      have h5 : (5 : Nat).testBit r = !(10 : Nat).testBit r := not_bit (z := 10) (by decide) hr
      cases hx : (10 : Nat).testBit r
      · rw [hx] at h5
        rw [← e2]
        refine t.at_congr fun i _ => ?_
        cases k.testBit i <;> simp [hx, h5]
      · rw [hx] at h5
        rw [← e1]
        refine t.at_congr fun i _ => ?_
        cases k.testBit i <;> simp [hx, h5]
  cases hb : t.bits.getD k false
  · rw [hb] at hc
    exact ⟨hc, hn 0 hc⟩
  · rw [hb] at hc
    exact ⟨hn 15 hc, hc⟩

theorem post_not (a3 : allC ts 3 = false) (hz : Gen ts 0) (ho : Gen ts 15) : ∀ z, Gen ts z → Gen ts (15 - z) := by
  obtain ⟨t, ht, h⟩ := out_of a3
  have h' : cls3 t.n t.bits = false := h
  unfold cls3 at h'
  rw [List.all_eq_false] at h'
  obtain ⟨q, hq, he⟩ := h'
  rw [Bool.not_eq_true, List.all_eq_false] at he
  obtain ⟨i, hi, hf⟩ := he
  have hq' : q < 2 ^ t.n := by rw [← (hok t ht).2]; exact List.mem_range.1 hq
  have hi' : i < t.n := List.mem_range.1 hi
  have hb : t.bits.getD q false = true ∧ t.bits.getD (q ||| 2 ^ i) false = false := by
    revert hf
    cases t.bits.getD q false <;> cases t.bits.getD (q ||| 2 ^ i) false <;> simp
  have hqi : q.testBit i = false := by
    cases hb2 : q.testBit i
    · rfl
    · have : q ||| 2 ^ i = q := by
        apply Nat.eq_of_testBit_eq
        intro j
        rw [Nat.testBit_or, Nat.testBit_two_pow]
        by_cases e : i = j
        · subst e; rw [hb2]; rfl
        · rw [decide_eq_false e, Bool.or_false]
      rw [this, hb.1] at hb
      cases hb.2
  intro z hz'
  refine Gen.of ht (fun j => if j = i then z else if q.testBit j then 15 else 0) (fun j _ => ?_) (by have := hz'.lt; omega) fun r hr => ?_
  · show Gen ts (if j = i then z else if q.testBit j then 15 else 0)
    split
    · exact hz'
    · split
      · exact ho
      · exact hz
  · rw [not_bit hz'.lt hr]
    have key : t.at (fun j => (if j = i then z else if q.testBit j then 15 else 0 : Nat).testBit r) = t.bits.getD (if z.testBit r then q ||| 2 ^ i else q) false := by
      unfold Tb.at
      congr 1
      refine bits_ext (idx_lt _ _) ?_ fun j hj => ?_
      · split
        · exact Nat.or_lt_two_pow hq' (Nat.pow_lt_pow_right (by omega) hi')
        · exact hq'
      · rw [idx_bit _ _ j hj]
        by_cases e : j = i
        · subst e
          rw [if_pos rfl]
          cases hzr : z.testBit r
          · simp [hqi]
          · simp [Nat.testBit_or]
        · rw [if_neg e, const_bit _ hr]
          cases z.testBit r
          · simp
          · simp only [if_true]
            rw [Nat.testBit_or, Nat.testBit_two_pow, decide_eq_false (Ne.symm e), Bool.or_false]
    rw [key]
    cases z.testBit r
    · rw [if_neg (by decide), hb.1]; rfl
    · rw [if_pos rfl, hb.2]; rfl
end

/-! A face of odd parity. -/
def upd (v : Nat → Bool) (i : Nat) (b : Bool) (j : Nat) : Bool := if j = i then b else v j
def faceAt (t : Tb) (v : Nat → Bool) (i j : Nat) (p q : Bool) : Bool := t.at (upd (upd v i p) j q)

/-- The first j values of v, no others. -/
def low (v : Nat → Bool) (j i : Nat) : Bool := if i < j then v i else false

theorem even_aff {t : Tb} (h : ∀ v i j, i < t.n → j < t.n → i ≠ j → (faceAt t v i j false false ^^ faceAt t v i j false true ^^ faceAt t v i j true false ^^ faceAt t v i j true true) = false) (v : Nat → Bool) : t.at v = affN t.bits v t.n := by
  have two : ∀ i, i < t.n → t.at (upd (fun _ => false) i true) = t.bits.getD (2 ^ i) false := fun i hi => by
    unfold Tb.at
    congr 1
    refine bits_ext (idx_lt _ _) (Nat.pow_lt_pow_right (by omega) hi) fun j hj => ?_
    rw [idx_bit _ _ j hj, Nat.testBit_two_pow]
    unfold upd
    by_cases e : j = i
    · rw [if_pos e, decide_eq_true e.symm]
    · rw [if_neg e, decide_eq_false (Ne.symm e)]
  have zero : t.at (fun _ => false) = t.bits.getD 0 false := by unfold Tb.at; rw [idx_none fun _ _ => rfl]
  -- the change by one value is the same everywhere
  have step : ∀ i, i < t.n → ∀ m, m ≤ i → (t.at (upd (low v m) i false) ^^ t.at (upd (low v m) i true)) = (t.bits.getD 0 false ^^ t.bits.getD (2 ^ i) false) := by
    intro i hi m
    induction m with
    | zero =>
      intro _
      have e0 : t.at (upd (low v 0) i false) = t.bits.getD 0 false := by
        rw [← zero]
        exact t.at_congr fun j _ => by simp [upd, low]
      have e1 : t.at (upd (low v 0) i true) = t.bits.getD (2 ^ i) false := by
        rw [← two i hi]
        exact t.at_congr fun j _ => by simp [upd, low]
      rw [e0, e1]
    | succ m ih =>
      intro hm
      have ih' := ih (by omega)
      cases hv : v m
      · rw [← ih']
        have e : ∀ b, t.at (upd (low v (m + 1)) i b) = t.at (upd (low v m) i b) := fun b => t.at_congr fun j _ => by
          unfold upd low
          by_cases e1 : j = i
          · rw [if_pos e1, if_pos e1]
          · rw [if_neg e1, if_neg e1]
            by_cases e2 : j < m
            · rw [if_pos e2, if_pos (by omega)]
            · by_cases e3 : j = m
              · subst e3; rw [if_pos (by omega), if_neg e2, hv]
              · rw [if_neg (by omega), if_neg e2]
        rw [e, e]
      · have hf := h (low v m) m i (by omega) hi (by omega)
        unfold faceAt at hf
        have e0 : ∀ b, t.at (upd (upd (low v m) m false) i b) = t.at (upd (low v m) i b) := fun b => t.at_congr fun j _ => by
          unfold upd low
          by_cases e1 : j = i
          · rw [if_pos e1, if_pos e1]
          · rw [if_neg e1, if_neg e1]
            by_cases e3 : j = m
            · subst e3; rw [if_pos rfl, if_neg (by omega)]
            · rw [if_neg e3]
        have e1 : ∀ b, t.at (upd (upd (low v m) m true) i b) = t.at (upd (low v (m + 1)) i b) := fun b => t.at_congr fun j _ => by
          unfold upd low
          by_cases e1 : j = i
          · rw [if_pos e1, if_pos e1]
          · rw [if_neg e1, if_neg e1]
            by_cases e3 : j = m
            · subst e3; rw [if_pos rfl, if_pos (by omega), hv]
            · rw [if_neg e3]
              by_cases e2 : j < m
              · rw [if_pos e2, if_pos (by omega)]
              · rw [if_neg e2, if_neg (by omega)]
        rw [e0, e0, e1, e1] at hf
        rw [← ih']
        revert hf
        cases t.at (upd (low v m) i false) <;> cases t.at (upd (low v m) i true) <;> cases t.at (upd (low v (m + 1)) i false) <;> cases t.at (upd (low v (m + 1)) i true) <;> decide
  have main : ∀ j, j ≤ t.n → t.at (low v j) = affN t.bits v j := by
    intro j
    induction j with
    | zero => exact fun _ => by rw [affN, ← zero]; exact t.at_congr fun i _ => by simp [low]
    | succ j ih =>
      intro hj
      have ih' := ih (by omega)
      have hs := step j (by omega) j (Nat.le_refl _)
      have e0 : t.at (upd (low v j) j false) = t.at (low v j) := t.at_congr fun i _ => by
        unfold upd low
        by_cases e : i = j
        · subst e; rw [if_pos rfl, if_neg (by omega)]
        · rw [if_neg e]
      have e1 : t.at (upd (low v j) j (v j)) = t.at (low v (j + 1)) := t.at_congr fun i _ => by
        unfold upd low
        by_cases e : i = j
        · subst e; rw [if_pos rfl, if_pos (by omega)]
        · rw [if_neg e]
          by_cases e2 : i < j
          · rw [if_pos e2, if_pos (by omega)]
          · rw [if_neg e2, if_neg (by omega)]
      rw [affN, ← e1, ← ih']
      rw [e0] at hs
      cases hv : v j
      · rw [e0]; simp
      · revert hs
        cases t.at (low v j) <;> cases t.at (upd (low v j) j true) <;> cases t.bits.getD 0 false <;> cases t.bits.getD (2 ^ j) false <;> decide
  rw [← main t.n (Nat.le_refl _)]
  exact t.at_congr fun i hi => by unfold low; rw [if_pos hi]

theorem odd_face {t : Tb} (hok : t.Ok) (h : cls4 t.n t.bits = false) : ∃ v i j, i < t.n ∧ j < t.n ∧ i ≠ j ∧ (faceAt t v i j false false ^^ faceAt t v i j false true ^^ faceAt t v i j true false ^^ faceAt t v i j true true) = true := by
  apply Classical.byContradiction
  intro hn
  have : cls4 t.n t.bits = true := (cls4_at hok).2 (even_aff fun v i j hi hj hij => by
    cases hb : (faceAt t v i j false false ^^ faceAt t v i j false true ^^ faceAt t v i j true false ^^ faceAt t v i j true true)
    · rfl
    · exact absurd ⟨v, i, j, hi, hj, hij, hb⟩ hn)
  rw [h] at this
  cases this

/-- An odd function of two values is a conjunction, but for opposites. -/
theorem odd_and (a b c d : Bool) (h : (a ^^ b ^^ c ^^ d) = true) : ∃ α β γ : Bool, ∀ p q : Bool, (p && q) = ((if p ^^ α then (if q ^^ β then d else c) else (if q ^^ β then b else a)) ^^ γ) := by
  revert h
  cases a <;> cases b <;> cases c <;> cases d <;> first
    | (intro h; exact absurd h (by decide))
    | (intro _; first
        | exact ⟨false, false, false, by decide⟩
        | exact ⟨false, false, true, by decide⟩
        | exact ⟨false, true, false, by decide⟩
        | exact ⟨false, true, true, by decide⟩
        | exact ⟨true, false, false, by decide⟩
        | exact ⟨true, false, true, by decide⟩
        | exact ⟨true, true, false, by decide⟩
        | exact ⟨true, true, true, by decide⟩)

theorem post_and {ts : List Tb} (hok : ∀ t ∈ ts, t.Ok) (a4 : allC ts 4 = false) (g0 : Gen ts 0) (g1 : Gen ts 15) (hn : ∀ z, Gen ts z → Gen ts (15 - z)) : ∀ z y, Gen ts z → Gen ts y → Gen ts (z &&& y) := by
  obtain ⟨t, ht, h⟩ := out_of a4
  obtain ⟨v, i, j, hi, hj, hij, hodd⟩ := odd_face (hok t ht) h
  obtain ⟨α, β, γ, hab⟩ := odd_and _ _ _ _ hodd
  have flip : ∀ (c : Bool) z, Gen ts z → Gen ts (if c then 15 - z else z) := fun c z hz => by cases c <;> simp [hz, hn z hz]
  have flipb : ∀ (c : Bool) z r, z < 16 → r < 4 → (if c then 15 - z else z : Nat).testBit r = (z.testBit r ^^ c) := fun c z r hz hr => by
    cases c
    · simp
    · simp [not_bit hz hr]
  intro z y hz hy
  have hz2 := flip α z hz
  have hy2 := flip β y hy
  have hF : Gen ts (putT t fun m => if m = j then (if β then 15 - y else y) else if m = i then (if α then 15 - z else z) else if v m then 15 else 0) :=
    Gen.app t ht _ fun m _ => by
      show Gen ts (if m = j then (if β then 15 - y else y) else if m = i then (if α then 15 - z else z) else if v m then 15 else 0)
      split
      · exact hy2
      · split
        · exact hz2
        · split
          · exact g1
          · exact g0
  have hR := flip γ _ hF
  have : (z &&& y) = (if γ then 15 - (putT t fun m => if m = j then (if β then 15 - y else y) else if m = i then (if α then 15 - z else z) else if v m then 15 else 0) else (putT t fun m => if m = j then (if β then 15 - y else y) else if m = i then (if α then 15 - z else z) else if v m then 15 else 0)) := by
    refine bits_ext (n := 4) (Nat.lt_of_le_of_lt Nat.and_le_left hz.lt) hR.lt fun r hr => ?_
    rw [flipb γ _ r hF.lt hr, putT_bit t _ hr, Nat.testBit_and, hab (z.testBit r) (y.testBit r)]
    congr 1
    have key : t.at (fun m => (if m = j then (if β then 15 - y else y) else if m = i then (if α then 15 - z else z) else if v m then 15 else 0 : Nat).testBit r) = faceAt t v i j (z.testBit r ^^ α) (y.testBit r ^^ β) := by
      unfold faceAt
      refine t.at_congr fun m _ => ?_
      unfold upd
      by_cases e1 : m = j
      · rw [if_pos e1, if_pos e1, flipb β y r hy.lt hr]
      · rw [if_neg e1, if_neg e1]
        by_cases e2 : m = i
        · rw [if_pos e2, if_pos e2, flipb α z r hz.lt hr]
        · rw [if_neg e2, if_neg e2, const_bit _ hr]
    rw [key]
    cases z.testBit r ^^ α <;> cases y.testBit r ^^ β <;> rfl
  rw [this]
  exact hR

/-- What is in no class makes all. -/
theorem post_yes {ts : List Tb} (hok : ∀ t ∈ ts, t.Ok) (h : ∀ i, i < 5 → allC ts i = false) : ∀ f, f < 16 → Gen ts f := by
  have hC : (Gen ts 0 ∧ Gen ts 15) ∧ ∀ z, Gen ts z → Gen ts (15 - z) := by
    rcases post_first hok (h 0 (by decide)) (h 1 (by decide)) with hn | ⟨g0, g1⟩
    · exact ⟨post_consts hok (h 2 (by decide)) hn, hn⟩
    · exact ⟨⟨g0, g1⟩, post_not hok (h 3 (by decide)) g0 g1⟩
  obtain ⟨⟨g0, g15⟩, hn⟩ := hC
  have ha := post_and hok (h 4 (by decide)) g0 g15 hn
  have g10 : Gen ts 10 := Gen.x
  have g12 : Gen ts 12 := Gen.y
  have g5 : Gen ts 5 := hn 10 g10
  have g3 : Gen ts 3 := hn 12 g12
  have g8 : Gen ts 8 := ha 10 12 g10 g12
  have g2 : Gen ts 2 := ha 10 3 g10 g3
  have g4 : Gen ts 4 := ha 5 12 g5 g12
  have g1 : Gen ts 1 := ha 5 3 g5 g3
  have g7 : Gen ts 7 := hn 8 g8
  have g13 : Gen ts 13 := hn 2 g2
  have g11 : Gen ts 11 := hn 4 g4
  have g14 : Gen ts 14 := hn 1 g1
  have g9 : Gen ts 9 := ha 13 11 g13 g11
  have g6 : Gen ts 6 := hn 9 g9
  intro f hf
  rcases (by omega : f = 0 ∨ f = 1 ∨ f = 2 ∨ f = 3 ∨ f = 4 ∨ f = 5 ∨ f = 6 ∨ f = 7 ∨ f = 8 ∨ f = 9 ∨ f = 10 ∨ f = 11 ∨ f = 12 ∨ f = 13 ∨ f = 14 ∨ f = 15) with rfl | rfl | rfl | rfl | rfl | rfl | rfl | rfl | rfl | rfl | rfl | rfl | rfl | rfl | rfl | rfl <;> assumption

/-- POST'S THEOREM: five classes tell whether all functions of two values are made. -/
theorem post {ts : List Tb} (hok : ∀ t ∈ ts, t.Ok) : compC ts 5 = true ↔ ∀ f, f < 16 → Gen ts f := by
  have hc : compC ts 5 = true ↔ ∀ i, i < 5 → allC ts i = false := by
    simp only [compC, Bool.true_and, Bool.and_eq_true, Bool.not_eq_true']
    constructor
    · rintro ⟨⟨⟨⟨h0, h1⟩, h2⟩, h3⟩, h4⟩ i hi
      rcases (by omega : i = 0 ∨ i = 1 ∨ i = 2 ∨ i = 3 ∨ i = 4) with rfl | rfl | rfl | rfl | rfl <;> assumption
    · exact fun h => ⟨⟨⟨⟨h 0 (by decide), h 1 (by decide)⟩, h 2 (by decide)⟩, h 3 (by decide)⟩, h 4 (by decide)⟩
  rw [hc]
  constructor
  · exact post_yes hok
  · intro hg i hi
    cases h : allC ts i
    · rfl
    · exact absurd hg (post_no hok hi h)
end Go.Proofs.Ytknngeojhiejnab
