/- Texts of one proof, one behind the other: Tr7. -/
import Derived.Test.YtmahgfgndfcmpabB25
/- Walks: namesOfPlain, Rows. -/
namespace Go.Proofs.Ytmahgfgndfcmpab
open Go.RowKit Go.Sort

theorem code_split (f : Fm) : f.code.1 = 0 → ∃ s, chk f 0 = .ok s := fun h => code_chk (code_zero h)
theorem pcode_ok {f : Fm} (h : f.pcode.1 = 0) : (∃ s, chk f 0 = .ok s) ∧ Plain f ∧ f.pcode = (0, 0) := by
  unfold Fm.pcode at *; by_cases hc : f.code.1 = 0
  · rw [if_pos hc] at h ⊢
    rcases hm : (modal f 0).2 with _ | _
    · refine ⟨code_split f hc, ?_, by simp⟩
      rw [modal_idx] at hm; exact hm
    · rw [hm] at h; simp at h
  · rw [if_neg hc] at h
    exact absurd h hc
theorem pcode_of {f : Fm} {s : Nat} (h : chk f 0 = .ok s) (hp : Plain f) : f.pcode = (0, 0) := by
  (have hc : f.code = (0, 0) := by simp only [Fm.code, h]); unfold Fm.pcode; rw [hc, if_pos rfl, modal_idx]; have : (mIdx (allN f) 0).2 = false := hp; rw [this]; rfl

mutual
theorem fine_nodes : ∀ (f : Fm), Fine f → ∀ g ∈ allN f, Fine g
  | .mk k n ks, h, g, hg => by
    rw [allN] at hg
    rcases List.mem_cons.1 hg with rfl | hg
    · exact h
    · exact fine_nodess ks (fun x hx => by
        obtain ⟨i, hi, rfl⟩ := List.getElem_of_mem hx
        exact h.kid i _ (List.getElem?_eq_getElem hi)) g hg
theorem fine_nodess : ∀ (fs : List Fm), (∀ x ∈ fs, Fine x) → ∀ g ∈ allNs fs, Fine g
  | [], _, g, hg => by rw [allNs] at hg; cases hg
  | f :: fs, h, g, hg => by
    rw [allNs] at hg
    rcases List.mem_append.1 hg with hg | hg
    · exact fine_nodes f (h f (List.mem_cons_self ..)) g hg
    · exact fine_nodess fs (fun x hx => h x (List.mem_cons_of_mem _ hx)) g hg
end
theorem nmsOf_mem : ∀ (l : List Fm) (t : ByteArray), t ∈ nmsOf l ↔ ∃ ks, Fm.mk 1 t ks ∈ l
  | [], t => by simp [nmsOf]
  | .mk k n ks :: l, t => by
    rw [nmsOf]
    split
    · rename_i hk
      subst hk; rw [List.mem_cons, nmsOf_mem l t]
      constructor
      · rintro (rfl | ⟨x, hx⟩)
        · exact ⟨ks, List.mem_cons_self ..⟩
        · exact ⟨x, List.mem_cons_of_mem _ hx⟩
      · rintro ⟨x, hx⟩
        rcases List.mem_cons.1 hx with h | h
        · injection h with _ h _; exact Or.inl h
        · exact Or.inr ⟨x, h⟩
    · rename_i hk
      rw [nmsOf_mem l t]
      constructor
      · rintro ⟨x, hx⟩; exact ⟨x, List.mem_cons_of_mem _ hx⟩
      · rintro ⟨x, hx⟩
        rcases List.mem_cons.1 hx with h | h
        · injection h with h _ _; exact absurd h.symm hk
        · exact ⟨x, h⟩
theorem nmsU_nm {f : Fm} (hf : Fine f) (t : List UInt8) (ht : t ∈ nmsU f) : isNm t = true := by
  rw [nmsU_mem] at ht; unfold nmsT at ht; obtain ⟨b, hb, rfl⟩ := List.mem_map.1 ht; obtain ⟨ks, hk⟩ := (nmsOf_mem _ _).1 hb; have := fine_nodes f hf _ hk
  rcases this.forms with ⟨m, e, hn⟩ | e | e | ⟨c, g, hk, e, hg⟩ | ⟨c, g, g', hk, e, hg, hg'⟩
  · cases e; exact hn
  · cases e
  · cases e
  · injection e with e _ _; subst e; rcases hk with h | h | h <;> cases h
  · injection e with e _ _; subst e; rcases hk with h | h | h <;> cases h
theorem nmsU_small {f : Fm} (hf : Fine f) (t : List UInt8) (ht : t ∈ nmsU f) : t.length ≤ 8 := by
  have := isNm_bd (nmsU_nm hf t ht); omega
theorem nmsU_nodup (f : Fm) : (nmsU f).Nodup := (nmsU_rising f).imp fun h e => by subst e; exact lt_irr _ h
theorem TL.sl {w : World} {v : Value} {l : List (List UInt8)} (h : TL w v l) : SL w v l := by
  obtain ⟨ad, cap, h1, h2, h3, h4⟩ := h; (refine ⟨ad, cap, h1, h2, h3, fun hne => ?_⟩); obtain ⟨g, h5, h6⟩ := h4 hne; (exact ⟨g, 0, h5, fun j t ht => by rw [Nat.zero_add]; exact h6 j t ht⟩)

theorem int2_no {w : World} {b : Nat} {c0 c1 : Int} {T : TypeId} (hb : w.heap[b]? = some (.cells #[.int .i64 c0, .int .i64 c1] T (0, 0))) {g j : Nat} {u : Value} (h : w.cell? ⟨g, j, none⟩ = some u) (hu : ∀ c, u ≠ .int .i64 c) : g ≠ b := by
  rintro rfl; rw [blk_cell hb] at h
  rcases j with _ | _ | j
  · simp at h; exact hu _ h.symm
  · simp at h; exact hu _ h.symm
  · simp at h
theorem TL.set2 {w : World} {v : Value} {l : List (List UInt8)} {b : Nat} {c0 c1 : Int} {T : TypeId} (h : TL w v l) (hb : w.heap[b]? = some (.cells #[.int .i64 c0, .int .i64 c1] T (0, 0))) (u u' : Value) : TL ((w.setCell ⟨b, 0, none⟩ u).setCell ⟨b, 1, none⟩ u') v l := by
  obtain ⟨ad, cap, h1, h2, h3, h4⟩ := h; (refine ⟨ad, cap, h1, h2, h3, fun hne => ?_⟩); obtain ⟨g, h5, h6⟩ := h4 hne; (refine ⟨g, h5, fun j t ht => ?_⟩); (have hg := int2_no hb (h6 j t ht) (fun c => by simp)); (rw [World.cell?_setCell_far _ _ _ _ (by simpa using hg.symm), World.cell?_setCell_far _ _ _ _ (by simpa using hg.symm)]); exact h6 j t ht
set_option maxHeartbeats 2000000 in
theorem np_good (f : Fm) (v : Value) (w : World) (hrep : Rep w (fun _ => True) f v) (hcf : f.pcode = (0, 0)) :
    Calls Try.prog 45 #[v] w fun e w' => ((6 < (nmsU f).length ∧ e = .returned (.tuple #[.slice none 0 0, .agg #[.int .i64 2, .int .i64 0]])) ∨ ((nmsU f).length ≤ 6 ∧ ∃ x, e = .returned (.tuple #[x, .agg #[.int .i64 0, .int .i64 0]]) ∧ TL w' x (nmsU f))) ∧ Below w.heap.size w w' := by
  (have hck := fun v (w : World) h => plainFault_any f v w h); (obtain ⟨⟨s, hs⟩, -, -⟩ := pcode_ok (f := f) (by rw [hcf])); rw [hcf] at hck; (have hnm := fun v (w : World) h => names_ok f v w h s hs)
  have hnl : (nmsU f).length ≤ 200 := by
    have h1 : (nmsU f).length ≤ (nmsT f).length := by
      unfold nmsU; have := compact_len (srt (nmsT f))
      rwa [List.length_mergeSort] at this
    unfold nmsT at h1; have := nmsOf_len (allN f); have h2 := chk_size hs; rw [allN_len] at this; rw [List.length_map] at h1; omega
  generalize nmsU f = U at *; obtain ⟨k, n, ks⟩ := f; obtain ⟨sl, cap, rfl⟩ := slice_shape hrep; have HC : Hid (∀ v w, _ → Calls Try.prog 40 #[v] w _) := hck; have HN : Hid (∀ v w, _ → Calls Try.prog 66 #[v] w _) := hnm; (have hlI : (U.length : Int) ≤ 200 := by omega); clear hck hcf hnm hs
  go_enter Try.func45, Try.ntmps45
  by_cases h6 : 6 < U.length
  · have h6I : (6 : Int) < (U.length : Int) := by omega
    go_wp2_with (first
      | (go_at_call 40
         refine (HC.out _ _ ((hrep.more _).more _)).mono ?_; rintro e w1 ⟨rfl, hb1⟩; have z1 := hb1.size; simp at z1; have q0 := below_keep hb1 (alloc_keep (blk_new w _) _); have q1 := below_keep hb1 (blk_new (w.alloc _) _); (rw [show (w.alloc _).heap.size = w.heap.size + 1 by simp] at q1); have B1 := below_join (below_more (below_more (Below.refl _ w) _) _) hb1; obtain ⟨a0, a1, a2, -⟩ := blk3 q0; have y0 : w.heap.size < w1.heap.size := lt_of_block q0
         have y1 : w.heap.size + 1 < w1.heap.size := lt_of_block q1)
      | (go_at_call 66
         refine (HN.out _ _ ((hrep.up B1).more _)).mono ?_; rintro e w2 ⟨x, rfl, htl, hb2⟩; have HTL : Hid (TL w2 x U) := htl; obtain ⟨adU, cpU, rfl, -⟩ := htl; have r1 := below_keep hb2 (alloc_keep q1 _); have B2 := below_join (below_more B1 _) hb2; have l1 := lt_of_block r1; (have d2 : ¬ w2.heap.size = w.heap.size + 1 := by omega); (have d1 : ¬ w.heap.size + 1 = w2.heap.size := by omega)
         obtain ⟨k1, k2, k3, k4⟩ := blk2 r1)
      | fail)
    have f2 := set2 r1 (.int .i64 2) (.int .i64 0); (have b2 := (B2.setCell (p := ⟨w.heap.size + 1, 0, none⟩) (by simp) (.int .i64 2)).setCell (p := ⟨w.heap.size + 1, 1, none⟩) (by simp) (.int .i64 0)); (have hsz : ((w2.setCell ⟨w.heap.size + 1, 0, none⟩ (.int .i64 2)).setCell ⟨w.heap.size + 1, 1, none⟩ (.int .i64 0)).heap.size = w2.heap.size := by simp [World.setCell]); generalize World.setCell _ _ _ = F at f2 b2 hsz ⊢; clear k1 k2 k3 k4; obtain ⟨k1, k2, -⟩ := blk2 f2; (have d4 : w.heap.size + 1 < F.heap.size := by omega); (exact bodyPost_ret (v := .tuple #[.slice none 0 0, .agg #[.int .i64 2, .int .i64 0]]) (by simp [results, Try.results45, go_sem, k1, k2, d4]) rfl ⟨Or.inl ⟨h6, rfl⟩, b2.alloc (by omega) _⟩)
  · have h6I : ¬ (6 : Int) < (U.length : Int) := by omega
    go_wp2_with (first
      | (go_at_call 40
         refine (HC.out _ _ ((hrep.more _).more _)).mono ?_; rintro e w1 ⟨rfl, hb1⟩; have z1 := hb1.size; simp at z1; have q0 := below_keep hb1 (alloc_keep (blk_new w _) _); have q1 := below_keep hb1 (blk_new (w.alloc _) _); (rw [show (w.alloc _).heap.size = w.heap.size + 1 by simp] at q1); have B1 := below_join (below_more (below_more (Below.refl _ w) _) _) hb1; obtain ⟨a0, a1, a2, -⟩ := blk3 q0; have y0 : w.heap.size < w1.heap.size := lt_of_block q0
         have y1 : w.heap.size + 1 < w1.heap.size := lt_of_block q1)
      | (go_at_call 66
         refine (HN.out _ _ ((hrep.up B1).more _)).mono ?_; rintro e w2 ⟨x, rfl, htl, hb2⟩; have HTL : Hid (TL w2 x U) := htl; obtain ⟨adU, cpU, rfl, -⟩ := htl; have r1 := below_keep hb2 (alloc_keep q1 _); have B2 := below_join (below_more B1 _) hb2; have l1 := lt_of_block r1; (have d2 : ¬ w2.heap.size = w.heap.size + 1 := by omega); (have d1 : ¬ w.heap.size + 1 = w2.heap.size := by omega)
         obtain ⟨k1, k2, k3, k4⟩ := blk2 r1)
      | fail)
    have f2 := set2 r1 (.int .i64 0) (.int .i64 0); (have b2 := (B2.setCell (p := ⟨w.heap.size + 1, 0, none⟩) (by simp) (.int .i64 0)).setCell (p := ⟨w.heap.size + 1, 1, none⟩) (by simp) (.int .i64 0)); (have hsz : ((w2.setCell ⟨w.heap.size + 1, 0, none⟩ (.int .i64 0)).setCell ⟨w.heap.size + 1, 1, none⟩ (.int .i64 0)).heap.size = w2.heap.size := by simp [World.setCell]); have TF : TL ((w2.setCell ⟨w.heap.size + 1, 0, none⟩ (.int .i64 0)).setCell ⟨w.heap.size + 1, 1, none⟩ (.int .i64 0)) (.slice adU U.length cpU) U := HTL.out.set2 r1 _ _; generalize World.setCell _ _ _ = F at f2 b2 hsz TF ⊢; clear k1 k2 k3 k4; obtain ⟨k1, k2, -⟩ := blk2 f2; (have d4 : w.heap.size + 1 < F.heap.size := by omega); (exact bodyPost_ret (v := .tuple #[.slice adU U.length cpU, .agg #[.int .i64 0, .int .i64 0]]) (by simp [results, Try.results45, go_sem, k1, k2, d4]) rfl ⟨Or.inr ⟨by omega, _, rfl, TF.up ((Below.refl _ _).alloc (Nat.le_refl _) _)⟩, b2.alloc (by omega) _⟩)

/-- What Rows and Valid say of a formula. -/
def Fm.ncode (f : Fm) : Int × Int := if f.pcode.1 = 0 then (if 6 < (nmsU f).length then (2, 0) else (0, 0)) else f.pcode

theorem ncode_ok {f : Fm} (h : f.ncode.1 = 0) : f.ncode = (0, 0) ∧ (nmsU f).length ≤ 6 ∧ f.pcode = (0, 0) := by
  unfold Fm.ncode at *; by_cases hp : f.pcode.1 = 0
  · rw [if_pos hp] at h ⊢
    by_cases h6 : 6 < (nmsU f).length
    · rw [if_pos h6] at h; simp at h
    · rw [if_neg h6]
      (exact ⟨rfl, by omega, (pcode_ok hp).2.2⟩)
  · rw [if_neg hp] at h
    exact absurd h hp

theorem np_yes (f : Fm) (h : f.ncode.1 = 0) (v : Value) (w : World) (hrep : Rep w (fun _ => True) f v) :
    Calls Try.prog 45 #[v] w fun e w' => ∃ x, e = .returned (.tuple #[x, .agg #[.int .i64 0, .int .i64 0]]) ∧ TL w' x (nmsU f) ∧ Below w.heap.size w w' := by
  obtain ⟨-, h6, hp⟩ := ncode_ok h; refine (np_good f v w hrep hp).mono ?_; rintro e w' ⟨⟨h, -⟩ | ⟨-, x, rfl, ht⟩, hb⟩
  · omega
  · exact ⟨x, rfl, ht, hb⟩

theorem column_own (f : Fm) (h : f.ncode.1 = 0) (v u : Value) (w : World) (hv : Rep w (fun _ => True) f v) (hu : TL w u (nmsU f)) :
    Calls Try.prog 43 #[v, u] w fun e w' => ∃ x, e = .returned x ∧ BL w' x (colL f (nmsU f)) ∧ Below w.heap.size w w' := by
  obtain ⟨-, h6, hp⟩ := ncode_ok h; (obtain ⟨⟨s, hs⟩, hpl, -⟩ := pcode_ok (f := f) (by rw [hp])); have hf := fine_of_chk f 0 s hs; exact column_any f hf hpl (nmsU f) h6 (nmsU_nodup f) (nmsU_small hf) v u w hv hu.sl
end Go.Proofs.Ytmahgfgndfcmpab
