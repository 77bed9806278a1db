/- Texts of one proof, one behind the other: Names2. -/
import Derived.Test.YtmahgfgndfcmpabB14
import Derived.Test.YtmahgfgndfcmpabB03
import Derived.Sort.OwnSorted
/- Walks: Names. -/
namespace Go.Proofs.Ytmahgfgndfcmpab
open Go.RowKit Go.Sort

abbrev srt (ss : List (List UInt8)) : List (List UInt8) := ss.mergeSort fun x y => decide (x ≤ y)

theorem sort_any (base g cap : Nat) (ss : List (List UInt8)) (hl : ss.length ≤ 200) (w : World) (hown : w.ownsRow base 9 1 (.slice (some ⟨g, 0, none⟩) ss.length cap) ss.length (ss.map encStr)) :
    Calls Try.prog 81 #[.slice (some ⟨g, 0, none⟩) ss.length cap] w fun e w' => e = .returned (.tuple #[]) ∧ w'.ownsRow base 9 1 (.slice (some ⟨g, 0, none⟩) ss.length cap) ss.length ((srt ss).map encStr) ∧ w.grownBy w' (some g) := by
  rcases hown.2 with ⟨h, -⟩ | ⟨g', cap', cur, hv, hg, hh, h1, h2, h3, h4⟩
  · cases h
  · cases hv
    rw [Nat.mul_one] at h4; (refine (Try.slices_Sort_string g 0 cap ss w (holds_of_block hh h4) (lt_of_block hh) (by omega)).mono ?_); rintro e w' ⟨rfl, n, os, rfl⟩; exact ⟨rfl, ownsRow_sorted (List.length_mergeSort ..) hg hh h1 h2 h3, grownBy_sorted _⟩

theorem compact_len (zs : List (List UInt8)) : (Lib.compact zs).length ≤ zs.length := by
  unfold Lib.compact Lib.compactUpTo; rw [List.length_map]; (exact Nat.le_trans (List.length_filter_le _ _) (by simp))

theorem compact_mem (zs : List (List UInt8)) (t : List UInt8) : t ∈ Lib.compact zs ↔ t ∈ zs := by
  unfold Lib.compact Lib.compactUpTo
  constructor
  · intro h
    obtain ⟨j, hj, rfl⟩ := List.mem_map.1 h; have hj := List.mem_range.1 (List.mem_filter.1 hj).1; (rw [getElem!_pos _ j (by simpa using hj)])
    simp
  · intro h
    obtain ⟨j, hj, rfl⟩ := List.getElem_of_mem h
    have key : ∀ j, j < zs.length → zs.toArray[j]! ∈ ((List.range zs.length).filter (Lib.keeps zs.toArray)).map (zs.toArray[·]!) := by
      intro j
      induction j with
      | zero => intro hj; exact List.mem_map.2 ⟨0, List.mem_filter.2 ⟨List.mem_range.2 hj, by simp [Lib.keeps]⟩, rfl⟩
      | succ j ih =>
        intro hj; by_cases hk : Lib.keeps zs.toArray (j + 1) = true
        · exact List.mem_map.2 ⟨j + 1, List.mem_filter.2 ⟨List.mem_range.2 hj, hk⟩, rfl⟩
        · have e : zs.toArray[j + 1]! = zs.toArray[j]! := by
            simpa [Lib.keeps] using hk
          rw [e]; (exact ih (by omega))
    have := key j hj; (rw [getElem!_pos _ j (by simpa using hj)] at this); simpa using this

theorem uniq_any (base g cap : Nat) (zs : List (List UInt8)) (hl : zs.length ≤ 200) (w : World) (hown : w.ownsRow base 9 1 (.slice (some ⟨g, 0, none⟩) zs.length cap) zs.length (zs.map encStr)) :
    Calls Try.prog 82 #[.slice (some ⟨g, 0, none⟩) zs.length cap] w fun e w' => e = .returned (.slice (some ⟨g, 0, none⟩) (Lib.compact zs).length cap) ∧ (∀ (j : Nat) (t : List UInt8), (Lib.compact zs)[j]? = some t → w'.cell? ⟨g, j, none⟩ = some (encStr t)) ∧ w.grownBy w' (some g) := by
  have hcl := compact_len zs
  rcases hown.2 with ⟨h, -⟩ | ⟨g', cap', cur, hv, hg, hh, h1, h2, h3, h4⟩
  · cases h
  · cases hv
    rw [Nat.mul_one] at h4; have hH := holds_of_block hh h4; (refine (Try.slices_Compact_string g 0 cap zs w hH (by omega) h1).mono ?_); rintro e w' ⟨rfl, q, rfl⟩; (refine ⟨rfl, fun j t ht => ?_, ?_⟩)
    · have hj : j < (Lib.compact zs).length := by
        rcases Nat.lt_or_ge j (Lib.compact zs).length with h | h
        · exact h
        · rw [List.getElem?_eq_none h] at ht; cases ht
      (have := cell?_putRow encStr (Sort.ahead w q) g 0 zs.toArray (Lib.compact zs ++ List.replicate (zs.length - (Lib.compact zs).length) []).toArray (holds_ahead _ _ _ _ _ _ hH) (by simp; omega) j (by simp; omega)); rw [Nat.zero_add] at this; rw [this]
      congr 2
      (rw [getElem!_pos _ j (by simp; omega)]); simp only [List.getElem_toArray]; rw [List.getElem_append_left hj]; rw [List.getElem?_eq_getElem hj] at ht; exact Option.some.inj ht
    · have := grownBy_sorted (w := w) (g := g) (n := q) (os := #[]) (Lib.compact zs ++ List.replicate (zs.length - (Lib.compact zs).length) []).toArray
      rwa [grow_empty] at this

/-- A list of texts in memory. -/
def TL (w : World) (v : Value) (l : List (List UInt8)) : Prop := ∃ ad cap, v = .slice ad l.length cap ∧ l.length ≤ cap ∧ cap ≤ maxLen ∧ (l ≠ [] → ∃ g, ad = some ⟨g, 0, none⟩ ∧ ∀ (j : Nat) (t : List UInt8), l[j]? = some t → w.cell? ⟨g, j, none⟩ = some (.string ⟨t.toArray⟩))
theorem TL.up {w w' : World} {v : Value} {l : List (List UInt8)} (h : TL w v l) (hb : Below w.heap.size w w') : TL w' v l := by
  obtain ⟨ad, cap, h1, h2, h3, h4⟩ := h; (refine ⟨ad, cap, h1, h2, h3, fun hne => ?_⟩); obtain ⟨g, h5, h6⟩ := h4 hne
  exact ⟨g, h5, fun j t ht => by
    have := h6 j t ht; rw [hb.cell (p := ⟨g, j, none⟩) (lt_of_cell this)]
    exact this⟩
theorem TL.nil {w : World} : TL w (.slice none 0 0) [] := ⟨none, 0, rfl, by simp, by simp, fun h => absurd rfl h⟩

/-- The names in a formula, each once, rising. -/
def nmsT (f : Fm) : List (List UInt8) := (nmsOf (allN f)).map (·.data.toList)
def nmsU (f : Fm) : List (List UInt8) := Lib.compact (srt (nmsT f))
theorem nmsU_mem (f : Fm) (t : List UInt8) : t ∈ nmsU f ↔ t ∈ nmsT f := by
  unfold nmsU; rw [compact_mem]; exact List.mem_mergeSort

theorem map_enc (l : List ByteArray) : (l.map (·.data.toList)).map encStr = l.map Value.string := by
  rw [List.map_map]; apply List.map_congr_left; intro b _; rfl

theorem uniq_nil : Lib.compact (srt []) = [] := by
  have : (Lib.compact (srt [])).length ≤ (srt []).length := compact_len _; rw [List.length_mergeSort] at this; (exact List.length_eq_zero_iff.1 (by simpa using this))

set_option maxHeartbeats 4000000 in
theorem names_ok (f : Fm) (v : Value) (w : World) (hrep : Rep w (fun _ => True) f v) (s : Nat) (hc : chk f 0 = .ok s) :
    Calls Try.prog 66 #[v] w fun e w' => ∃ x, e = .returned (.tuple #[x, .agg #[.int .i64 0, .int .i64 0]]) ∧ TL w' x (nmsU f) ∧ Below w.heap.size w w' := by
  (have hck := fun v (w : World) h => check_any f v w h); (have hcode : f.code = (0, 0) := by simp only [Fm.code, hc]); rw [hcode] at hck; have hsz := chk_size hc; have hfi := fine_of_chk f 0 s hc; (have hea := fun cb hcb v wx h hi => each_any (names_visit w.heap.size cb hcb) none f v wx hsz hfi h hi); (have hm := hrep.move (ok' := (· < w.heap.size)) fun b hb _ => ⟨rfl, hb⟩)
  have hnl : (nmsT f).length ≤ 200 := by
    unfold nmsT; have := nmsOf_len (allN f); rw [allN_len] at this; rw [List.length_map]; omega
  have hnt : (nmsT f).length = (nmsOf (allN f)).length := List.length_map ..; have hme : (nmsT f).map encStr = (nmsOf (allN f)).map Value.string := map_enc _; have hnu : nmsU f = Lib.compact (srt (nmsT f)) := rfl; obtain ⟨k, n, ks⟩ := f; obtain ⟨sl, cap, rfl⟩ := slice_shape hrep; have HC : Hid (∀ v w, _ → Calls Try.prog 63 #[v] w _) := hck; have HE : Hid (∀ (cb : Nat) (hcb : w.heap.size ≤ cb) (v : Value) (wx : World), Rep wx (· < w.heap.size) (.mk k n ks) v → InvN cb [] none wx → Calls Try.prog 78 _ wx _) := hea; have HM : Hid (Rep w (· < w.heap.size) (.mk k n ks) (.agg #[.int .i64 k, .string n, .slice sl ks.length cap])) := hm; have HT : Hid ((nmsT (.mk k n ks)).map encStr = (nmsOf (allN (.mk k n ks))).map Value.string ∧ (nmsT (.mk k n ks)).length = (nmsOf (allN (.mk k n ks))).length ∧ nmsU (.mk k n ks) = Lib.compact (srt (nmsT (.mk k n ks))) ∧ (nmsT (.mk k n ks)).length ≤ 200) := ⟨hme, hnt, hnu, hnl⟩; (have hmf : ∀ (fn : Fn) (first cap : Array Value) (w : World), (Instr.makeFunc fn first cap).run Try.prog w = .ok (.func fn first cap) w := fun _ _ _ _ => rfl); clear hck hcode hc hea hm hnl hnt hme hnu; generalize nmsT (.mk k n ks) = T at *; generalize nmsU (.mk k n ks) = U at *
  go_enter Try.func66, Try.ntmps66
  go_wp2_with (first
    | (go_at_call 63
       refine (HC.out _ _ ((hrep.more _).more _)).mono ?_; rintro e w1 ⟨rfl, hb1⟩; have z1 := hb1.size; simp at z1; have q0 := below_keep hb1 (alloc_keep (blk_new w _) _); have q1 := below_keep hb1 (blk_new (w.alloc _) _); (rw [show (w.alloc _).heap.size = w.heap.size + 1 by simp] at q1); have B1 := below_join (below_more (below_more (Below.refl _ w) _) _) hb1; have M1 : Hid (Rep w1 (· < w.heap.size) (.mk k n ks) (.agg #[.int .i64 k, .string n, .slice sl ks.length cap])) := HM.out.low B1; obtain ⟨a0, a1, a2, -⟩ := blk3 q0; have y0 : w.heap.size < w1.heap.size := lt_of_block q0
       have y1 : w.heap.size + 1 < w1.heap.size := lt_of_block q1)
    | (go_at_call 78
       have nb := blk_new (w1.alloc (.cells #[.int .i64 0, .int .i64 0] 25 (0, 0))) (.cells #[.slice none 0 0] 38 (0, 0)); (rw [show (w1.alloc (.cells #[.int .i64 0, .int .i64 0] 25 (0, 0))).heap.size = w1.heap.size + 1 by simp] at nb); (refine (HE.out (w1.heap.size + 1) (by omega) _ _ (M1.out.low (((Below.refl _ w1).alloc (by omega) _).alloc (by simp; omega) _)) ⟨none, 0, nb, rfl, ⟨rfl, Or.inl ⟨rfl, rfl⟩⟩⟩).mono ?_); rintro e w2 ⟨rfl, ob', ⟨ad, cp, c1, c2, c3⟩, hk2, -⟩; (have r1 : w2.heap[w.heap.size + 1]? = some (.cells #[.int .i64 0, .int .i64 0] 25 (0, 0)) := (hk2.block _ (by simp; omega) ⟨by omega, by simp⟩).trans (alloc_keep (alloc_keep q1 _) _)); (have B2 : Below w.heap.size w w2 := (below_more (below_more B1 _) _).trans (hk2.below (by simp; omega) (fun b hb => ⟨by omega, by simp⟩))); have HR : Hid (w2.ownsRow (w1.heap.size + 1 + 1) 9 1 (.slice ad (nmsOf (allN (.mk k n ks))).length cp) (nmsOf (allN (.mk k n ks))).length ((nmsOf (allN (.mk k n ks))).map Value.string)) := c3; rw [← HT.out.2.1] at c1; have zc := lt_of_block c1; clear c2 c3 hk2 nb
       have HD : Hid ((ad = none ∧ T = [] ∧ cp = 0) ∨ ∃ g, ad = some ⟨g, 0, none⟩ ∧ w1.heap.size + 1 + 1 ≤ g ∧ w2.ownsRow (w1.heap.size + 1 + 1) 9 1 (.slice (some ⟨g, 0, none⟩) T.length cp) T.length (T.map encStr)) := by
         have h := HR.out; rw [← HT.out.1, ← HT.out.2.1] at h
         rcases h.2 with ⟨hv, h0⟩ | ⟨g, cap', cur, hv, hg, -⟩
         · simp only [Value.slice.injEq] at hv
           exact Or.inl ⟨hv.1, List.length_eq_zero_iff.1 h0, hv.2.2⟩
         · simp only [Value.slice.injEq, true_and] at hv
           rw [hv.1] at h; exact Or.inr ⟨g, hv.1, hg, h⟩
       clear HR; have hd := HD.out; clear HD
       rcases hd with ⟨rfl, hT, rfl⟩ | ⟨g, rfl, hgg, hown⟩
       case' inl =>
         subst hT; have HUn : Hid (U = []) := HT.out.2.2.1.trans uniq_nil
         replace c1 : w2.heap[w1.heap.size + 1]? = some (.cells #[.slice none 0 0] 38 (0, 0)) := c1
       case' inr =>
         have HO : Hid (w2.ownsRow (w1.heap.size + 1 + 1) 9 1 (.slice (some ⟨g, 0, none⟩) T.length cp) T.length (T.map encStr)) := hown; clear hown
       all_goals obtain ⟨k1, k2⟩ := blk1 c1)
    | (go_at_call 81
       have ho := HO.out; refine (sort_any (w1.heap.size + 1 + 1) g cp T HT.out.2.2.2 _ ho).mono ?_; rintro e w3 ⟨rfl, ho3, hg3⟩; have HO3 : Hid (w3.ownsRow (w1.heap.size + 1 + 1) 9 1 (.slice (some ⟨g, 0, none⟩) T.length cp) T.length ((srt T).map encStr)) := ho3; (have s1 := (hg3.block _ zc (fun e => by have : w1.heap.size + 1 = g := Option.some.inj e; omega)).trans c1); (have s2 := (hg3.block _ (lt_of_block r1) (fun e => by have : w.heap.size + 1 = g := Option.some.inj e; omega)).trans r1); (have B3 : Below w.heap.size w w3 := B2.trans ⟨hg3.os, hg3.tape, hg3.output, hg3.size, fun j hj => hg3.block j (by have := B2.size; omega) (fun e => by have : j = g := Option.some.inj e; omega)⟩); clear ho3 hg3 k1 k2
       obtain ⟨k1, k2⟩ := blk1 s1)
    | (go_at_call 81
       have hu := HUn.out; refine (Try.slices_Sort_string_none _ _ _).mono ?_; rintro e w3 ⟨rfl, rfl⟩
       obtain ⟨p0, p1, p2, p3⟩ := blk2 r1)
    | (go_at_call 82
       have ho := HO3.out; have hsl : (srt T).length = T.length := List.length_mergeSort ..; (have hun := uniq_any (w1.heap.size + 1 + 1) g cp (srt T) (by rw [hsl]; exact HT.out.2.2.2) w3 (by rw [hsl]; exact ho)); rw [hsl, ← HT.out.2.2.1] at hun; refine hun.mono ?_; rintro e w4 ⟨rfl, hcells, hg4⟩; (have t2 := (hg4.block _ (lt_of_block s2) (fun e => by have : w.heap.size + 1 = g := Option.some.inj e; omega)).trans s2); (have B4 : Below w.heap.size w w4 := B3.trans ⟨hg4.os, hg4.tape, hg4.output, hg4.size, fun j hj => hg4.block j (by have := B3.size; omega) (fun e => by have : j = g := Option.some.inj e; omega)⟩); have HCe : Hid (∀ (j : Nat) (t : List UInt8), U[j]? = some t → w4.cell? ⟨g, j, none⟩ = some (encStr t)) := hcells
       have HUl : Hid (U.length ≤ cp ∧ cp ≤ maxLen) := by
         have h1 := compact_len (srt T); rw [hsl, ← HT.out.2.2.1] at h1
         rcases ho.2 with ⟨hv, -⟩ | ⟨g', cap', cur, hv, -, -, h2, h3, -⟩
         · cases hv
         · cases hv
           (exact ⟨by omega, h3⟩)
       clear hun hcells hg4
       obtain ⟨p0, p1, p2, p3⟩ := blk2 t2)
    | (go_at_call 82
       have hu := HUn.out; refine (Try.slices_Compact_string_empty _ _ _).mono ?_
       rintro e w4 ⟨rfl, rfl⟩)
    | fail)
  · have f2 := set2 t2 (.int .i64 0) (.int .i64 0)
    (have b2 := (B4.setCell (p := ⟨w.heap.size + 1, 0, none⟩) (by simp) (.int .i64 0)).setCell (p := ⟨w.heap.size + 1, 1, none⟩) (by simp) (.int .i64 0))
    have TF : TL ((w4.setCell ⟨w.heap.size + 1, 0, none⟩ (.int .i64 0)).setCell ⟨w.heap.size + 1, 1, none⟩ (.int .i64 0)) (.slice (some ⟨g, 0, none⟩) U.length cp) U := by
      (refine ⟨_, cp, rfl, HUl.out.1, HUl.out.2, fun _ => ⟨g, rfl, fun j t ht => ?_⟩⟩); (rw [World.cell?_setCell_far _ _ _ _ (by simp; omega), World.cell?_setCell_far _ _ _ _ (by simp; omega)]); exact HCe.out j t ht
    generalize World.setCell _ _ _ = F at f2 b2 TF ⊢; clear p0 p1 p2 p3; obtain ⟨p0, p1, -⟩ := blk2 f2; (exact bodyPost_ret (v := .tuple #[.slice (some ⟨g, 0, none⟩) U.length cp, .agg #[.int .i64 0, .int .i64 0]]) (by simp [results, Try.results66, go_sem, p0, p1]) rfl ⟨_, rfl, TF, b2⟩)
  · have f2 := set2 r1 (.int .i64 0) (.int .i64 0)
    (have b2 := (B2.setCell (p := ⟨w.heap.size + 1, 0, none⟩) (by simp) (.int .i64 0)).setCell (p := ⟨w.heap.size + 1, 1, none⟩) (by simp) (.int .i64 0)); generalize World.setCell _ _ _ = F at f2 b2 ⊢; clear p0 p1 p2 p3; obtain ⟨p0, p1, -⟩ := blk2 f2; (exact bodyPost_ret (v := .tuple #[.slice none 0 0, .agg #[.int .i64 0, .int .i64 0]]) (by simp [results, Try.results66, go_sem, p0, p1]) rfl ⟨_, rfl, by rw [HUn.out]; exact TL.nil, b2⟩)
end Go.Proofs.Ytmahgfgndfcmpab
