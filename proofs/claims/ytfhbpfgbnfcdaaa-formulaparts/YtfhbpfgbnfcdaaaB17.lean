/- Texts of one proof, one behind the other: Names2, Parts1. -/
import Derived.Test.YtfhbpfgbnfcdaaaB16
import Derived.Test.YtfhbpfgbnfcdaaaB03
import Derived.Sort.OwnSorted
import Derived.Test.YtfhbpfgbnfcdaaaB12
/- Walks: Names. -/
namespace Go.Proofs.Ytfhbpfgbnfcdaaa
open Go.RowKit Go.Sort

abbrev srt (ss : List (List UInt8)) : List (List UInt8) := ss.mergeSort fun x y => decide (x ≤ y)

theorem sort_any (base g cap : Nat) (ss : List (List UInt8)) (hl : ss.length ≤ 200) (w : World) (hown : w.ownsRow base 9 1 (.slice (some ⟨g, 0, none⟩) ss.length cap) ss.length (ss.map encStr)) :
    Calls Try.prog 55 #[.slice (some ⟨g, 0, none⟩) ss.length cap] w fun e w' => e = .returned (.tuple #[]) ∧ w'.ownsRow base 9 1 (.slice (some ⟨g, 0, none⟩) ss.length cap) ss.length ((srt ss).map encStr) ∧ w.grownBy w' (some g) := by
  rcases hown.2 with ⟨h, -⟩ | ⟨g', cap', cur, hv, hg, hh, h1, h2, h3, h4⟩
  · cases h
  · cases hv
    rw [Nat.mul_one] at h4; (refine (Try.slices_Sort_string g 0 cap ss w (holds_of_block hh h4) (lt_of_block hh) (by omega)).mono ?_); rintro e w' ⟨rfl, n, os, rfl⟩; exact ⟨rfl, ownsRow_sorted (List.length_mergeSort ..) hg hh h1 h2 h3, grownBy_sorted _⟩

theorem compact_len (zs : List (List UInt8)) : (Lib.compact zs).length ≤ zs.length := by
  unfold Lib.compact Lib.compactUpTo; rw [List.length_map]; (exact Nat.le_trans (List.length_filter_le _ _) (by simp))

theorem compact_mem (zs : List (List UInt8)) (t : List UInt8) : t ∈ Lib.compact zs ↔ t ∈ zs := by
  unfold Lib.compact Lib.compactUpTo
  constructor
  · intro h
    obtain ⟨j, hj, rfl⟩ := List.mem_map.1 h; have hj := List.mem_range.1 (List.mem_filter.1 hj).1; (rw [getElem!_pos _ j (by simpa using hj)])
    simp
  · intro h
    obtain ⟨j, hj, rfl⟩ := List.getElem_of_mem h
    have key : ∀ j, j < zs.length → zs.toArray[j]! ∈ ((List.range zs.length).filter (Lib.keeps zs.toArray)).map (zs.toArray[·]!) := by
      intro j
      induction j with
      | zero => intro hj; exact List.mem_map.2 ⟨0, List.mem_filter.2 ⟨List.mem_range.2 hj, by simp [Lib.keeps]⟩, rfl⟩
      | succ j ih =>
        intro hj; by_cases hk : Lib.keeps zs.toArray (j + 1) = true
        · exact List.mem_map.2 ⟨j + 1, List.mem_filter.2 ⟨List.mem_range.2 hj, hk⟩, rfl⟩
        · have e : zs.toArray[j + 1]! = zs.toArray[j]! := by
            simpa [Lib.keeps] using hk
          rw [e]; (exact ih (by omega))
    have := key j hj; (rw [getElem!_pos _ j (by simpa using hj)] at this); simpa using this

theorem uniq_any (base g cap : Nat) (zs : List (List UInt8)) (hl : zs.length ≤ 200) (w : World) (hown : w.ownsRow base 9 1 (.slice (some ⟨g, 0, none⟩) zs.length cap) zs.length (zs.map encStr)) :
    Calls Try.prog 56 #[.slice (some ⟨g, 0, none⟩) zs.length cap] w fun e w' => e = .returned (.slice (some ⟨g, 0, none⟩) (Lib.compact zs).length cap) ∧ (∀ (j : Nat) (t : List UInt8), (Lib.compact zs)[j]? = some t → w'.cell? ⟨g, j, none⟩ = some (encStr t)) ∧ w.grownBy w' (some g) := by
  have hcl := compact_len zs
  rcases hown.2 with ⟨h, -⟩ | ⟨g', cap', cur, hv, hg, hh, h1, h2, h3, h4⟩
  · cases h
  · cases hv
    rw [Nat.mul_one] at h4; have hH := holds_of_block hh h4; (refine (Try.slices_Compact_string g 0 cap zs w hH (by omega) h1).mono ?_); rintro e w' ⟨rfl, q, rfl⟩; (refine ⟨rfl, fun j t ht => ?_, ?_⟩)
    · have hj : j < (Lib.compact zs).length := by
        rcases Nat.lt_or_ge j (Lib.compact zs).length with h | h
        · exact h
        · rw [List.getElem?_eq_none h] at ht; cases ht
      (have := cell?_putRow encStr (Sort.ahead w q) g 0 zs.toArray (Lib.compact zs ++ List.replicate (zs.length - (Lib.compact zs).length) []).toArray (holds_ahead _ _ _ _ _ _ hH) (by simp; omega) j (by simp; omega)); rw [Nat.zero_add] at this; rw [this]
      congr 2
      (rw [getElem!_pos _ j (by simp; omega)]); simp only [List.getElem_toArray]; rw [List.getElem_append_left hj]; rw [List.getElem?_eq_getElem hj] at ht; exact Option.some.inj ht
    · have := grownBy_sorted (w := w) (g := g) (n := q) (os := #[]) (Lib.compact zs ++ List.replicate (zs.length - (Lib.compact zs).length) []).toArray
      rwa [grow_empty] at this

/-- A list of texts in memory. -/
def TL (w : World) (v : Value) (l : List (List UInt8)) : Prop := ∃ ad cap, v = .slice ad l.length cap ∧ l.length ≤ cap ∧ cap ≤ maxLen ∧ (l ≠ [] → ∃ g, ad = some ⟨g, 0, none⟩ ∧ ∀ (j : Nat) (t : List UInt8), l[j]? = some t → w.cell? ⟨g, j, none⟩ = some (.string ⟨t.toArray⟩))
theorem TL.up {w w' : World} {v : Value} {l : List (List UInt8)} (h : TL w v l) (hb : Below w.heap.size w w') : TL w' v l := by
  obtain ⟨ad, cap, h1, h2, h3, h4⟩ := h; (refine ⟨ad, cap, h1, h2, h3, fun hne => ?_⟩); obtain ⟨g, h5, h6⟩ := h4 hne
  exact ⟨g, h5, fun j t ht => by
    have := h6 j t ht; rw [hb.cell (p := ⟨g, j, none⟩) (lt_of_cell this)]
    exact this⟩
theorem TL.nil {w : World} : TL w (.slice none 0 0) [] := ⟨none, 0, rfl, by simp, by simp, fun h => absurd rfl h⟩

/-- The names in a formula, each once, rising. -/
def nmsT (f : Fm) : List (List UInt8) := (nmsOf (allN f)).map (·.data.toList)
def nmsU (f : Fm) : List (List UInt8) := Lib.compact (srt (nmsT f))
theorem nmsU_mem (f : Fm) (t : List UInt8) : t ∈ nmsU f ↔ t ∈ nmsT f := by
  unfold nmsU; rw [compact_mem]; exact List.mem_mergeSort

set_option maxHeartbeats 2000000 in
theorem names_bad (f : Fm) (v : Value) (w : World) (hrep : Rep w (fun _ => True) f v) (c a : Int) (hc : c ≠ 0) (hcf : f.code = (c, a)) :
    Calls Try.prog 20 #[v] w fun e w' => e = .returned (.tuple #[.slice none 0 0, .agg #[.int .i64 c, .int .i64 a]]) ∧ Below w.heap.size w w' := by
  (have hck := fun v (w : World) h => check_any f v w h); rw [hcf] at hck; (have hne' : (c != 0) = true := by simpa using hc); obtain ⟨k, n, ks⟩ := f; obtain ⟨sl, cap, rfl⟩ := slice_shape hrep; have HC : Hid (∀ v w, _ → Calls Try.prog 12 #[v] w _) := hck; clear hck hcf hc
  go_enter Try.func20, Try.ntmps20
  go_wp2_with (first
    | (go_at_call 12
       refine (HC.out _ _ ((hrep.more _).more _)).mono ?_; rintro e w1 ⟨rfl, hb1⟩; have z1 := hb1.size; simp at z1; have q1 := below_keep hb1 (blk_new (w.alloc _) _); (rw [show (w.alloc _).heap.size = w.heap.size + 1 by simp] at q1); have B1 := below_join (below_more (below_more (Below.refl _ w) _) _) hb1; obtain ⟨k1, k2, k3, k4⟩ := blk2 q1; (have d1 : ¬ w.heap.size + 1 = w1.heap.size := by omega); (have d2 : ¬ w1.heap.size = w.heap.size + 1 := by omega)
       have d3 : w.heap.size + 1 < w1.heap.size := by omega)
    | fail)
  go_region
  all_goals go_wp2
  have f2 := set2 q1 (.int .i64 c) (.int .i64 a); (have b2 := (B1.setCell (p := ⟨w.heap.size + 1, 0, none⟩) (by simp) (.int .i64 c)).setCell (p := ⟨w.heap.size + 1, 1, none⟩) (by simp) (.int .i64 a)); (have hsz : ((w1.setCell ⟨w.heap.size + 1, 0, none⟩ (.int .i64 c)).setCell ⟨w.heap.size + 1, 1, none⟩ (.int .i64 a)).heap.size = w1.heap.size := by simp [World.setCell]); generalize World.setCell _ _ _ = F at f2 b2 hsz ⊢; clear k1 k2 k3 k4; obtain ⟨k1, k2, -⟩ := blk2 f2; (have d4 : w.heap.size + 1 < F.heap.size := by omega); (exact bodyPost_ret (v := .tuple #[.slice none 0 0, .agg #[.int .i64 c, .int .i64 a]]) (by simp [results, Try.results20, go_sem, k1, k2, d4]) rfl ⟨rfl, (b2.alloc (by omega) _).drew⟩)

theorem map_enc (l : List ByteArray) : (l.map (·.data.toList)).map encStr = l.map Value.string := by
  rw [List.map_map]; apply List.map_congr_left; intro b _; rfl

theorem uniq_nil : Lib.compact (srt []) = [] := by
  have : (Lib.compact (srt [])).length ≤ (srt []).length := compact_len _; rw [List.length_mergeSort] at this; (exact List.length_eq_zero_iff.1 (by simpa using this))

set_option maxHeartbeats 4000000 in
theorem names_ok (f : Fm) (v : Value) (w : World) (hrep : Rep w (fun _ => True) f v) (s : Nat) (hc : chk f 0 = .ok s) :
    Calls Try.prog 20 #[v] w fun e w' => ∃ x, e = .returned (.tuple #[x, .agg #[.int .i64 0, .int .i64 0]]) ∧ TL w' x (nmsU f) ∧ Below w.heap.size w w' := by
  (have hck := fun v (w : World) h => check_any f v w h); (have hcode : f.code = (0, 0) := by simp only [Fm.code, hc]); rw [hcode] at hck; have hsz := chk_size hc; have hfi := fine_of_chk f 0 s hc; (have hea := fun cb hcb v wx h hi => each_any (names_visit w.heap.size cb hcb) none f v wx hsz hfi h hi); (have hm := hrep.move (ok' := (· < w.heap.size)) fun b hb _ => ⟨rfl, hb⟩)
  have hnl : (nmsT f).length ≤ 200 := by
    unfold nmsT; have := nmsOf_len (allN f); rw [allN_len] at this; rw [List.length_map]; omega
  have hnt : (nmsT f).length = (nmsOf (allN f)).length := List.length_map ..; have hme : (nmsT f).map encStr = (nmsOf (allN f)).map Value.string := map_enc _; have hnu : nmsU f = Lib.compact (srt (nmsT f)) := rfl; obtain ⟨k, n, ks⟩ := f; obtain ⟨sl, cap, rfl⟩ := slice_shape hrep; have HC : Hid (∀ v w, _ → Calls Try.prog 12 #[v] w _) := hck; have HE : Hid (∀ (cb : Nat) (hcb : w.heap.size ≤ cb) (v : Value) (wx : World), Rep wx (· < w.heap.size) (.mk k n ks) v → InvN cb [] none wx → Calls Try.prog 52 _ wx _) := hea; have HM : Hid (Rep w (· < w.heap.size) (.mk k n ks) (.agg #[.int .i64 k, .string n, .slice sl ks.length cap])) := hm; have HT : Hid ((nmsT (.mk k n ks)).map encStr = (nmsOf (allN (.mk k n ks))).map Value.string ∧ (nmsT (.mk k n ks)).length = (nmsOf (allN (.mk k n ks))).length ∧ nmsU (.mk k n ks) = Lib.compact (srt (nmsT (.mk k n ks))) ∧ (nmsT (.mk k n ks)).length ≤ 200) := ⟨hme, hnt, hnu, hnl⟩; (have hmf : ∀ (fn : Fn) (first cap : Array Value) (w : World), (Instr.makeFunc fn first cap).run Try.prog w = .ok (.func fn first cap) w := fun _ _ _ _ => rfl); clear hck hcode hc hea hm hnl hnt hme hnu; generalize nmsT (.mk k n ks) = T at *; generalize nmsU (.mk k n ks) = U at *
  go_enter Try.func20, Try.ntmps20
  go_wp2_with (first
    | (go_at_call 12
       refine (HC.out _ _ ((hrep.more _).more _)).mono ?_; rintro e w1 ⟨rfl, hb1⟩; have z1 := hb1.size; simp at z1; have q0 := below_keep hb1 (alloc_keep (blk_new w _) _); have q1 := below_keep hb1 (blk_new (w.alloc _) _); (rw [show (w.alloc _).heap.size = w.heap.size + 1 by simp] at q1); have B1 := below_join (below_more (below_more (Below.refl _ w) _) _) hb1; have M1 : Hid (Rep w1 (· < w.heap.size) (.mk k n ks) (.agg #[.int .i64 k, .string n, .slice sl ks.length cap])) := HM.out.low B1; obtain ⟨a0, a1, a2, -⟩ := blk3 q0; have y0 : w.heap.size < w1.heap.size := lt_of_block q0
       have y1 : w.heap.size + 1 < w1.heap.size := lt_of_block q1)
    | (go_at_call 52
       have nb := blk_new (w1.alloc (.cells #[.int .i64 0, .int .i64 0] 29 (0, 0))) (.cells #[.slice none 0 0] 39 (0, 0)); (rw [show (w1.alloc (.cells #[.int .i64 0, .int .i64 0] 29 (0, 0))).heap.size = w1.heap.size + 1 by simp] at nb); (refine (HE.out (w1.heap.size + 1) (by omega) _ _ (M1.out.low (((Below.refl _ w1).alloc (by omega) _).alloc (by simp; omega) _)) ⟨none, 0, nb, rfl, ⟨rfl, Or.inl ⟨rfl, rfl⟩⟩⟩).mono ?_); rintro e w2 ⟨rfl, ob', ⟨ad, cp, c1, c2, c3⟩, hk2, -⟩; (have r1 : w2.heap[w.heap.size + 1]? = some (.cells #[.int .i64 0, .int .i64 0] 29 (0, 0)) := (hk2.block _ (by simp; omega) ⟨by omega, by simp⟩).trans (alloc_keep (alloc_keep q1 _) _)); (have B2 : Below w.heap.size w w2 := (below_more (below_more B1 _) _).trans (hk2.below (by simp; omega) (fun b hb => ⟨by omega, by simp⟩))); have HR : Hid (w2.ownsRow (w1.heap.size + 1 + 1) 9 1 (.slice ad (nmsOf (allN (.mk k n ks))).length cp) (nmsOf (allN (.mk k n ks))).length ((nmsOf (allN (.mk k n ks))).map Value.string)) := c3; rw [← HT.out.2.1] at c1; have zc := lt_of_block c1; clear c2 c3 hk2 nb
       have HD : Hid ((ad = none ∧ T = [] ∧ cp = 0) ∨ ∃ g, ad = some ⟨g, 0, none⟩ ∧ w1.heap.size + 1 + 1 ≤ g ∧ w2.ownsRow (w1.heap.size + 1 + 1) 9 1 (.slice (some ⟨g, 0, none⟩) T.length cp) T.length (T.map encStr)) := by
         have h := HR.out; rw [← HT.out.1, ← HT.out.2.1] at h
         rcases h.2 with ⟨hv, h0⟩ | ⟨g, cap', cur, hv, hg, -⟩
         · simp only [Value.slice.injEq] at hv
           exact Or.inl ⟨hv.1, List.length_eq_zero_iff.1 h0, hv.2.2⟩
         · simp only [Value.slice.injEq, true_and] at hv
           rw [hv.1] at h; exact Or.inr ⟨g, hv.1, hg, h⟩
       clear HR; have hd := HD.out; clear HD
       rcases hd with ⟨rfl, hT, rfl⟩ | ⟨g, rfl, hgg, hown⟩
       case' inl =>
         subst hT; have HUn : Hid (U = []) := HT.out.2.2.1.trans uniq_nil
         replace c1 : w2.heap[w1.heap.size + 1]? = some (.cells #[.slice none 0 0] 39 (0, 0)) := c1
       case' inr =>
         have HO : Hid (w2.ownsRow (w1.heap.size + 1 + 1) 9 1 (.slice (some ⟨g, 0, none⟩) T.length cp) T.length (T.map encStr)) := hown; clear hown
       all_goals obtain ⟨k1, k2⟩ := blk1 c1)
    | (go_at_call 55
       have ho := HO.out; refine (sort_any (w1.heap.size + 1 + 1) g cp T HT.out.2.2.2 _ ho).mono ?_; rintro e w3 ⟨rfl, ho3, hg3⟩; have HO3 : Hid (w3.ownsRow (w1.heap.size + 1 + 1) 9 1 (.slice (some ⟨g, 0, none⟩) T.length cp) T.length ((srt T).map encStr)) := ho3; (have s1 := (hg3.block _ zc (fun e => by have : w1.heap.size + 1 = g := Option.some.inj e; omega)).trans c1); (have s2 := (hg3.block _ (lt_of_block r1) (fun e => by have : w.heap.size + 1 = g := Option.some.inj e; omega)).trans r1); (have B3 : Below w.heap.size w w3 := B2.trans ⟨hg3.os, hg3.tape, hg3.output, hg3.size, fun j hj => hg3.block j (by have := B2.size; omega) (fun e => by have : j = g := Option.some.inj e; omega)⟩); clear ho3 hg3 k1 k2
       obtain ⟨k1, k2⟩ := blk1 s1)
    | (go_at_call 55
       have hu := HUn.out; refine (Try.slices_Sort_string_none _ _ _).mono ?_; rintro e w3 ⟨rfl, rfl⟩
       obtain ⟨p0, p1, p2, p3⟩ := blk2 r1)
    | (go_at_call 56
       have ho := HO3.out; have hsl : (srt T).length = T.length := List.length_mergeSort ..; (have hun := uniq_any (w1.heap.size + 1 + 1) g cp (srt T) (by rw [hsl]; exact HT.out.2.2.2) w3 (by rw [hsl]; exact ho)); rw [hsl, ← HT.out.2.2.1] at hun; refine hun.mono ?_; rintro e w4 ⟨rfl, hcells, hg4⟩; (have t2 := (hg4.block _ (lt_of_block s2) (fun e => by have : w.heap.size + 1 = g := Option.some.inj e; omega)).trans s2); (have B4 : Below w.heap.size w w4 := B3.trans ⟨hg4.os, hg4.tape, hg4.output, hg4.size, fun j hj => hg4.block j (by have := B3.size; omega) (fun e => by have : j = g := Option.some.inj e; omega)⟩); have HCe : Hid (∀ (j : Nat) (t : List UInt8), U[j]? = some t → w4.cell? ⟨g, j, none⟩ = some (encStr t)) := hcells
       have HUl : Hid (U.length ≤ cp ∧ cp ≤ maxLen) := by
         have h1 := compact_len (srt T); rw [hsl, ← HT.out.2.2.1] at h1
         rcases ho.2 with ⟨hv, -⟩ | ⟨g', cap', cur, hv, -, -, h2, h3, -⟩
         · cases hv
         · cases hv
           (exact ⟨by omega, h3⟩)
       clear hun hcells hg4
       obtain ⟨p0, p1, p2, p3⟩ := blk2 t2)
    | (go_at_call 56
       have hu := HUn.out; refine (Try.slices_Compact_string_empty _ _ _).mono ?_
       rintro e w4 ⟨rfl, rfl⟩)
    | fail)
  · have f2 := set2 t2 (.int .i64 0) (.int .i64 0)
    (have b2 := (B4.setCell (p := ⟨w.heap.size + 1, 0, none⟩) (by simp) (.int .i64 0)).setCell (p := ⟨w.heap.size + 1, 1, none⟩) (by simp) (.int .i64 0))
    have TF : TL ((w4.setCell ⟨w.heap.size + 1, 0, none⟩ (.int .i64 0)).setCell ⟨w.heap.size + 1, 1, none⟩ (.int .i64 0)) (.slice (some ⟨g, 0, none⟩) U.length cp) U := by
      (refine ⟨_, cp, rfl, HUl.out.1, HUl.out.2, fun _ => ⟨g, rfl, fun j t ht => ?_⟩⟩); (rw [World.cell?_setCell_far _ _ _ _ (by simp; omega), World.cell?_setCell_far _ _ _ _ (by simp; omega)]); exact HCe.out j t ht
    generalize World.setCell _ _ _ = F at f2 b2 TF ⊢; clear p0 p1 p2 p3; obtain ⟨p0, p1, -⟩ := blk2 f2; (exact bodyPost_ret (v := .tuple #[.slice (some ⟨g, 0, none⟩) U.length cp, .agg #[.int .i64 0, .int .i64 0]]) (by simp [results, Try.results20, go_sem, p0, p1]) rfl ⟨_, rfl, TF, b2⟩)
  · have f2 := set2 r1 (.int .i64 0) (.int .i64 0)
    (have b2 := (B2.setCell (p := ⟨w.heap.size + 1, 0, none⟩) (by simp) (.int .i64 0)).setCell (p := ⟨w.heap.size + 1, 1, none⟩) (by simp) (.int .i64 0)); generalize World.setCell _ _ _ = F at f2 b2 ⊢; clear p0 p1 p2 p3; obtain ⟨p0, p1, -⟩ := blk2 f2; (exact bodyPost_ret (v := .tuple #[.slice none 0 0, .agg #[.int .i64 0, .int .i64 0]]) (by simp [results, Try.results20, go_sem, p0, p1]) rfl ⟨_, rfl, by rw [HUn.out]; exact TL.nil, b2⟩)
end Go.Proofs.Ytfhbpfgbnfcdaaa
/- Walks: lists of texts and of formulas, as the yardstick compares them. -/
namespace Go.Proofs.Ytfhbpfgbnfcdaaa
open Go.RowKit

set_option maxHeartbeats 1000000 in
theorem texts_same (l : List (List UInt8)) (v u : Value) (w : World) (h : TL w v l) (h' : TL w u l) :
    Calls Try.prog 23 #[v, u] w fun e w' => e = .returned (.bool true) ∧ Below w.heap.size w w' := by
  obtain ⟨ad, cap, rfl, h1, h2, h3⟩ := h; obtain ⟨ad', cap', rfl, h1', h2', h3'⟩ := h'; (have hlI : (l.length : Int) ≤ 9223372036854775807 := by unfold maxLen at h2; omega); have H3 : Hid (l ≠ [] → ∃ g, ad = some ⟨g, 0, none⟩ ∧ ∀ (j : Nat) (t : List UInt8), l[j]? = some t → w.cell? ⟨g, j, none⟩ = some (.string ⟨t.toArray⟩)) := h3; have H4 : Hid (l ≠ [] → ∃ g, ad' = some ⟨g, 0, none⟩ ∧ ∀ (j : Nat) (t : List UInt8), l[j]? = some t → w.cell? ⟨g, j, none⟩ = some (.string ⟨t.toArray⟩)) := h3'; clear h3 h3'
  go_enter Try.func23, Try.ntmps23
  go_wp2_with fail
  go_loopg [5] l.length (fun g c wr => ∃ i, i ≤ l.length ∧ g = l.length - i ∧ c = .int .i64 (i : Nat) ∧ Below w.heap.size w wr ∧ (∀ a : Addr, wr.cell? a = w.cell? a))
  case atStart => exact ⟨0, by omega, by omega, rfl, Below.refl _ _, fun _ => rfl⟩
  case round =>
    obtain ⟨i, hi, hg, rfl, hbr, hce⟩ := hrel; have HG : Hid (gk = l.length - i) := hg; have HCe : Hid (∀ a : Addr, wr.cell? a = w.cell? a) := hce; clear hg hce; by_cases hlt : i < l.length
    · obtain ⟨x, hx⟩ : ∃ x, l[i]? = some x := ⟨_, List.getElem?_eq_getElem hlt⟩
      (obtain ⟨g, rfl, hc⟩ := H3.out (fun e => by rw [e] at hlt; simp at hlt)); (obtain ⟨g', rfl, hc'⟩ := H4.out (fun e => by rw [e] at hlt; simp at hlt)); have g0 := (HCe.out _).trans (hc i x hx); have g1 := (HCe.out _).trans (hc' i x hx); (have hltI : (i : Int) < (l.length : Int) := by omega); (have hlc : (i : Int) < (cap : Int) := by omega); (have hlc' : (i : Int) < (cap' : Int) := by omega); clear hc hc' hx H3 H4; generalize (⟨x.toArray⟩ : ByteArray) = X at *; go_wp2_with fail
      go_quiet (fail)
      go_wp2_with fail
      go_roundg (l.length - (i + 1))
      case measure => have := HG.out; omega
      case rel => exact ⟨i + 1, by omega, rfl, by go_num, ⟨hbr.os, hbr.tape, hbr.output, hbr.size, hbr.block⟩, fun a => HCe.out a⟩
    · have hge : ¬ (i : Int) < (l.length : Int) := by omega
      clear H3 H4; go_wp2_with fail; go_ret; exact ⟨rfl, hbr⟩

/-- A list of formulas in memory. -/
def FL (w : World) (v : Value) (fs : List Fm) : Prop := ∃ ad cap, v = .slice ad fs.length cap ∧ fs.length ≤ cap ∧ cap ≤ maxLen ∧ (fs ≠ [] → ∃ b off, ad = some ⟨b, off, none⟩ ∧ Reps w (fun _ => True) b off fs)
theorem FL.up {w w' : World} {v : Value} {fs : List Fm} (h : FL w v fs) (hb : Below w.heap.size w w') : FL w' v fs := by
  obtain ⟨ad, cap, h1, h2, h3, h4⟩ := h; (refine ⟨ad, cap, h1, h2, h3, fun hne => ?_⟩); obtain ⟨b, off, h5, h6⟩ := h4 hne; exact ⟨b, off, h5, h6.up hb⟩

set_option maxHeartbeats 2000000 in
theorem alike_same (fs : List Fm) (v u : Value) (w : World) (h : FL w v fs) (h' : FL w u fs) :
    Calls Try.prog 25 #[v, u] w fun e w' => e = .returned (.bool true) ∧ Below w.heap.size w w' := by
  obtain ⟨ad, cap, rfl, h1, h2, h3⟩ := h; obtain ⟨ad', cap', rfl, h1', h2', h3'⟩ := h'; (have hlI : (fs.length : Int) ≤ 9223372036854775807 := by unfold maxLen at h2; omega); (have H3 : Hid (fs ≠ [] → ∃ b off, ad = some ⟨b, off, none⟩ ∧ Reps w (fun _ => True) b off fs) := h3); (have H4 : Hid (fs ≠ [] → ∃ b off, ad' = some ⟨b, off, none⟩ ∧ Reps w (fun _ => True) b off fs) := h3'); clear h3 h3'
  go_enter Try.func25, Try.ntmps25
  go_wp2_with fail
  go_loopg [5] fs.length (fun g c wr => ∃ i, i ≤ fs.length ∧ g = fs.length - i ∧ c = .int .i64 (i : Nat) ∧ Below w.heap.size w wr)
  case atStart => exact ⟨0, by omega, by omega, rfl, Below.refl _ _⟩
  case round =>
    obtain ⟨i, hi, hg, rfl, hbr⟩ := hrel; have HG : Hid (gk = fs.length - i) := hg; clear hg; by_cases hlt : i < fs.length
    · obtain ⟨⟨k2, n2, ks2⟩, hki⟩ : ∃ f, fs[i]? = some f := ⟨_, List.getElem?_eq_getElem hlt⟩
      (obtain ⟨b, off, rfl, hrs⟩ := H3.out (fun e => by rw [e] at hlt; simp at hlt)); (obtain ⟨b', off', rfl, hrs'⟩ := H4.out (fun e => by rw [e] at hlt; simp at hlt)); obtain ⟨sl2, cap2, g0, g1, g2, hrep2⟩ := (hrs.up hbr).at i k2 n2 ks2 hki; obtain ⟨sl3, cap3, p0, p1, p2, hrep3⟩ := (hrs'.up hbr).at i k2 n2 ks2 hki; (have hltI : (i : Int) < (fs.length : Int) := by omega); (have hlc : (i : Int) < (cap : Int) := by omega); (have hlc' : (i : Int) < (cap' : Int) := by omega); have zb := lt_of_cell g0; have zb' := lt_of_cell p0; have zz := hbr.size; (have HS : Hid (∀ v u w, _ → _ → Calls Try.prog 15 #[v, u] w _) := fun v u w h1 h2 => same_self (.mk k2 n2 ks2) v u w h1 h2); simp only at zb zb'; clear hki hrs hrs' H3 H4; go_wp2_with fail
      go_region_held3 (fun w' => w'.cell? ⟨b, off + i * 3, none⟩ = some (.int .i64 k2) ∧ w'.cell? ⟨b, off + i * 3 + 1, none⟩ = some (.string n2) ∧ w'.cell? ⟨b, off + i * 3 + 2, none⟩ = some (.slice sl2 ks2.length cap2) ∧ w'.cell? ⟨b', off' + i * 3, none⟩ = some (.int .i64 k2) ∧ w'.cell? ⟨b', off' + i * 3 + 1, none⟩ = some (.string n2) ∧ w'.cell? ⟨b', off' + i * 3 + 2, none⟩ = some (.slice sl3 ks2.length cap3)) (go_keep)
        (first
         | (go_at_call 15
            refine (HS.out _ _ _ (hrep2.up (Below.refl _ _).drew) (hrep3.up (Below.refl _ _).drew)).mono ?_; rintro e w1 ⟨rfl, hb1⟩; have c3 := (hb1.cell (p := ⟨b, off + i * 3, none⟩) zb).trans g0; have c4 := (hb1.cell (p := ⟨b, off + i * 3 + 1, none⟩) zb).trans g1; have c5 := (hb1.cell (p := ⟨b, off + i * 3 + 2, none⟩) zb).trans g2; have c6 := (hb1.cell (p := ⟨b', off' + i * 3, none⟩) zb').trans p0; have c7 := (hb1.cell (p := ⟨b', off' + i * 3 + 1, none⟩) zb').trans p1
            have c8 := (hb1.cell (p := ⟨b', off' + i * 3 + 2, none⟩) zb').trans p2)
         | fail)
      have hbb : Below w.heap.size w w1 := hbr.drew.trans (hb1.mono zz); go_wp2_with fail
      go_roundg (fs.length - (i + 1))
      case measure => have := HG.out; omega
      case rel => exact ⟨i + 1, by omega, rfl, by go_num, hbb⟩
    · have hge : ¬ (i : Int) < (fs.length : Int) := by omega
      clear H3 H4; go_wp2_with fail; go_ret; exact ⟨rfl, hbr⟩

/-- Is a formula in a list? -/
def hasF (f : Fm) (fs : List Fm) : Bool := fs.any fun g => sameB g f

set_option maxHeartbeats 2000000 in
theorem has_any (fs : List Fm) (f : Fm) (v u : Value) (w : World) (h : FL w v fs) (hu : Rep w (fun _ => True) f u) :
    Calls Try.prog 64 #[v, u] w fun e w' => e = .returned (.bool (hasF f fs)) ∧ Below w.heap.size w w' := by
  obtain ⟨ad, cap, rfl, h1, h2, h3⟩ := h; obtain ⟨kf, nf, ksf⟩ := f; obtain ⟨slf, capf, rfl⟩ := slice_shape hu; (have hlI : (fs.length : Int) ≤ 9223372036854775807 := by unfold maxLen at h2; omega); (have H3 : Hid (fs ≠ [] → ∃ b off, ad = some ⟨b, off, none⟩ ∧ Reps w (fun _ => True) b off fs) := h3); clear h3
  go_enter Try.func64, Try.ntmps64
  go_wp2_with fail
  go_loopg [5] fs.length (fun g c wr => ∃ i, i ≤ fs.length ∧ g = fs.length - i ∧ c = .int .i64 (i : Nat) ∧ Below w.heap.size w wr ∧ wr.heap[w.heap.size]? = some (.cells #[.int .i64 kf, .string nf, .slice slf ksf.length capf] 24 (0, 0)) ∧ Hid (hasF (.mk kf nf ksf) (fs.take i) = false))
  case atStart => exact ⟨0, by omega, by omega, rfl, (Below.refl _ _).alloc (Nat.le_refl _) _, blk_new _ _, by show _ = _; rfl⟩
  case round =>
    obtain ⟨i, hi, hg, rfl, hbr, q0, HN⟩ := hrel; have HG : Hid (gk = fs.length - i) := hg; clear hg; obtain ⟨e0, e1, e2, -⟩ := blk3 q0; have z0 := lt_of_block q0; by_cases hlt : i < fs.length
    · obtain ⟨⟨k2, n2, ks2⟩, hki⟩ : ∃ f, fs[i]? = some f := ⟨_, List.getElem?_eq_getElem hlt⟩
      (obtain ⟨b, off, rfl, hrs⟩ := H3.out (fun e => by rw [e] at hlt; simp at hlt)); obtain ⟨sl2, cap2, g0, g1, g2, hrep2⟩ := (hrs.up hbr).at i k2 n2 ks2 hki; (have hltI : (i : Int) < (fs.length : Int) := by omega); (have hlc : (i : Int) < (cap : Int) := by omega); have zb := lt_of_cell g0; have zz := hbr.size; have hrepf := hu.up hbr; (have hsm := fun v u w h1 h2 => same_any (.mk k2 n2 ks2) (.mk kf nf ksf) v u w h1 h2)
      have hnx : hasF (.mk kf nf ksf) (fs.take (i + 1)) = (hasF (.mk kf nf ksf) (fs.take i) || sameB (.mk k2 n2 ks2) (.mk kf nf ksf)) := by
        unfold hasF; rw [List.take_add_one, hki, List.any_append]
        simp
      (have hin : sameB (.mk k2 n2 ks2) (.mk kf nf ksf) = true → hasF (.mk kf nf ksf) fs = true := fun h => List.any_eq_true.2 ⟨_, List.mem_of_getElem? hki, h⟩); simp only at zb; generalize hbb : sameB (.mk k2 n2 ks2) (.mk kf nf ksf) = bb at hsm hnx hin; have HS : Hid (∀ v u w, _ → _ → Calls Try.prog 15 #[v, u] w _) := hsm
      have HX : Hid (hasF (.mk kf nf ksf) (fs.take (i + 1)) = bb) := by
        show _ = _; rw [hnx, HN.out, Bool.false_or]
      have HI : Hid (bb = true → hasF (.mk kf nf ksf) fs = true) := hin; clear hki hrs H3 hsm hnx hin hbb; go_wp2_with fail
      go_region_held3 (fun w' => w'.cell? ⟨b, off + i * 3, none⟩ = some (.int .i64 k2) ∧ w'.cell? ⟨b, off + i * 3 + 1, none⟩ = some (.string n2) ∧ w'.cell? ⟨b, off + i * 3 + 2, none⟩ = some (.slice sl2 ks2.length cap2) ∧ w'.cell? ⟨w.heap.size, 0, none⟩ = some (.int .i64 kf) ∧ w'.cell? ⟨w.heap.size, 1, none⟩ = some (.string nf) ∧ w'.cell? ⟨w.heap.size, 2, none⟩ = some (.slice slf ksf.length capf)) (go_keep)
        (first
         | (go_at_call 15
            refine (HS.out _ _ _ (hrep2.up (Below.refl _ _).drew) (hrepf.up (Below.refl _ _).drew)).mono ?_; rintro e w1 ⟨rfl, hb1⟩; have c3 := (hb1.cell (p := ⟨b, off + i * 3, none⟩) zb).trans g0; have c4 := (hb1.cell (p := ⟨b, off + i * 3 + 1, none⟩) zb).trans g1; have c5 := (hb1.cell (p := ⟨b, off + i * 3 + 2, none⟩) zb).trans g2; have c6 := (hb1.cell (p := ⟨w.heap.size, 0, none⟩) z0).trans e0; have c7 := (hb1.cell (p := ⟨w.heap.size, 1, none⟩) z0).trans e1
            have c8 := (hb1.cell (p := ⟨w.heap.size, 2, none⟩) z0).trans e2)
         | fail)
      have hb2 : Below w.heap.size w w1 := hbr.drew.trans (hb1.mono zz); have q1 := (hb1.block _ z0).trans q0; clear c3 c4 c5 c6 c7 c8
      cases bb
      · go_wp2_with fail
        go_roundg (fs.length - (i + 1))
        case measure => have := HG.out; omega
        case rel => exact ⟨i + 1, by omega, rfl, by go_num, hb2, q1, HX⟩
      · have HT : Hid (hasF (.mk kf nf ksf) fs = true) := HI.out rfl
        clear HI HX; go_wp2_with fail; go_ret; (exact ⟨by rw [HT.out]; rfl, hb2⟩)
    · have HT : Hid (hasF (.mk kf nf ksf) fs = false) := by
        have := HN.out; (rw [List.take_of_length_le (by omega)] at this); exact this
      (have hge : ¬ (i : Int) < (fs.length : Int) := by omega); clear H3 HN; go_wp2_with fail; go_ret; (exact ⟨by rw [HT.out]; rfl, hbr⟩)
end Go.Proofs.Ytfhbpfgbnfcdaaa
