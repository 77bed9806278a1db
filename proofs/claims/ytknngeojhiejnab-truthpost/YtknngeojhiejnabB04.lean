/- Texts of one proof, one behind the other: Names2, Math12, Swaps1, Parts1, Parts2, Parts3, With1, PartsIn1, Math13, NamesIn1, Parts5, TMath1. -/
import Derived.Test.YtknngeojhiejnabB03
import Derived.Sort.OwnSorted
import Derived.Sort.Walk0
import Derived.Deep.AppendSrc
import Derived.Deep.DeepCutAuto
/- Walks: Names. -/
namespace Go.Proofs.Ytknngeojhiejnab
open Go.RowKit Go.Sort

abbrev srt (ss : List (List UInt8)) : List (List UInt8) := ss.mergeSort fun x y => decide (x ≤ y)

theorem sort_any (base g cap : Nat) (ss : List (List UInt8)) (hl : ss.length ≤ 200) (w : World) (hown : w.ownsRow base 9 1 (.slice (some ⟨g, 0, none⟩) ss.length cap) ss.length (ss.map encStr)) :
    Calls Try.prog 81 #[.slice (some ⟨g, 0, none⟩) ss.length cap] w fun e w' => e = .returned (.tuple #[]) ∧ w'.ownsRow base 9 1 (.slice (some ⟨g, 0, none⟩) ss.length cap) ss.length ((srt ss).map encStr) ∧ w.grownBy w' (some g) := by
  rcases hown.2 with ⟨h, -⟩ | ⟨g', cap', cur, hv, hg, hh, h1, h2, h3, h4⟩
  · cases h
  · cases hv
    rw [Nat.mul_one] at h4
    refine (Try.slices_Sort_string g 0 cap ss w (holds_of_block hh h4) (lt_of_block hh) (by omega)).mono ?_
    rintro e w' ⟨rfl, n, os, rfl⟩
    exact ⟨rfl, ownsRow_sorted (List.length_mergeSort ..) hg hh h1 h2 h3, grownBy_sorted _⟩

theorem compact_len (zs : List (List UInt8)) : (Lib.compact zs).length ≤ zs.length := by
  unfold Lib.compact Lib.compactUpTo
  rw [List.length_map]
  exact Nat.le_trans (List.length_filter_le _ _) (by simp)

theorem compact_mem (zs : List (List UInt8)) (t : List UInt8) : t ∈ Lib.compact zs ↔ t ∈ zs := by
  unfold Lib.compact Lib.compactUpTo
  constructor
  · intro h
    obtain ⟨j, hj, rfl⟩ := List.mem_map.1 h
    have hj := List.mem_range.1 (List.mem_filter.1 hj).1
    rw [getElem!_pos _ j (by simpa using hj)]
    simp
  · intro h
    obtain ⟨j, hj, rfl⟩ := List.getElem_of_mem h
    have key : ∀ j, j < zs.length → zs.toArray[j]! ∈ ((List.range zs.length).filter (Lib.keeps zs.toArray)).map (zs.toArray[·]!) := by
      intro j
      induction j with
      | zero => intro hj; exact List.mem_map.2 ⟨0, List.mem_filter.2 ⟨List.mem_range.2 hj, by simp [Lib.keeps]⟩, rfl⟩
      | succ j ih =>
        intro hj
        by_cases hk : Lib.keeps zs.toArray (j + 1) = true
        · exact List.mem_map.2 ⟨j + 1, List.mem_filter.2 ⟨List.mem_range.2 hj, hk⟩, rfl⟩
        · have e : zs.toArray[j + 1]! = zs.toArray[j]! := by
            simpa [Lib.keeps] using hk
          rw [e]
          exact ih (by omega)
    have := key j hj
    rw [getElem!_pos _ j (by simpa using hj)] at this
    simpa using this

theorem uniq_any (base g cap : Nat) (zs : List (List UInt8)) (hl : zs.length ≤ 200) (w : World) (hown : w.ownsRow base 9 1 (.slice (some ⟨g, 0, none⟩) zs.length cap) zs.length (zs.map encStr)) :
    Calls Try.prog 82 #[.slice (some ⟨g, 0, none⟩) zs.length cap] w fun e w' => e = .returned (.slice (some ⟨g, 0, none⟩) (Lib.compact zs).length cap) ∧ (∀ (j : Nat) (t : List UInt8), (Lib.compact zs)[j]? = some t → w'.cell? ⟨g, j, none⟩ = some (encStr t)) ∧ w.grownBy w' (some g) := by
  have hcl := compact_len zs
  rcases hown.2 with ⟨h, -⟩ | ⟨g', cap', cur, hv, hg, hh, h1, h2, h3, h4⟩
  · cases h
  · cases hv
    rw [Nat.mul_one] at h4
    have hH := holds_of_block hh h4
    refine (Try.slices_Compact_string g 0 cap zs w hH (by omega) h1).mono ?_
    rintro e w' ⟨rfl, q, rfl⟩
    refine ⟨rfl, fun j t ht => ?_, ?_⟩
    · have hj : j < (Lib.compact zs).length := by
        rcases Nat.lt_or_ge j (Lib.compact zs).length with h | h
        · exact h
        · rw [List.getElem?_eq_none h] at ht; cases ht
      have := cell?_putRow encStr (Sort.ahead w q) g 0 zs.toArray (Lib.compact zs ++ List.replicate (zs.length - (Lib.compact zs).length) []).toArray (holds_ahead _ _ _ _ _ _ hH) (by simp; omega) j (by simp; omega)
      rw [Nat.zero_add] at this
      rw [this]
      congr 2
      rw [getElem!_pos _ j (by simp; omega)]
      simp only [List.getElem_toArray]
      rw [List.getElem_append_left hj]
      rw [List.getElem?_eq_getElem hj] at ht
      exact Option.some.inj ht
    · have := grownBy_sorted (w := w) (g := g) (n := q) (os := #[]) (Lib.compact zs ++ List.replicate (zs.length - (Lib.compact zs).length) []).toArray
      rwa [grow_empty] at this

/-- A list of texts in memory. -/
def TL (w : World) (v : Value) (l : List (List UInt8)) : Prop := ∃ ad cap, v = .slice ad l.length cap ∧ l.length ≤ cap ∧ cap ≤ maxLen ∧ (l ≠ [] → ∃ g, ad = some ⟨g, 0, none⟩ ∧ ∀ (j : Nat) (t : List UInt8), l[j]? = some t → w.cell? ⟨g, j, none⟩ = some (.string ⟨t.toArray⟩))
theorem TL.up {w w' : World} {v : Value} {l : List (List UInt8)} (h : TL w v l) (hb : Below w.heap.size w w') : TL w' v l := by
  obtain ⟨ad, cap, h1, h2, h3, h4⟩ := h
  refine ⟨ad, cap, h1, h2, h3, fun hne => ?_⟩
  obtain ⟨g, h5, h6⟩ := h4 hne
  exact ⟨g, h5, fun j t ht => by
    have := h6 j t ht
    rw [hb.cell (p := ⟨g, j, none⟩) (lt_of_cell this)]
    exact this⟩
theorem TL.nil {w : World} : TL w (.slice none 0 0) [] := ⟨none, 0, rfl, by simp, by simp, fun h => absurd rfl h⟩

/-- The names in a formula, each once, rising. -/
def nmsT (f : Fm) : List (List UInt8) := (nmsOf (allN f)).map (·.data.toList)
def nmsU (f : Fm) : List (List UInt8) := Lib.compact (srt (nmsT f))
theorem nmsU_mem (f : Fm) (t : List UInt8) : t ∈ nmsU f ↔ t ∈ nmsT f := by
  unfold nmsU
  rw [compact_mem]
  exact List.mem_mergeSort

theorem map_enc (l : List ByteArray) : (l.map (·.data.toList)).map encStr = l.map Value.string := by
  rw [List.map_map]
  apply List.map_congr_left
  intro b _
  rfl

theorem uniq_nil : Lib.compact (srt []) = [] := by
  have : (Lib.compact (srt [])).length ≤ (srt []).length := compact_len _
  rw [List.length_mergeSort] at this
  exact List.length_eq_zero_iff.1 (by simpa using this)

set_option maxHeartbeats 4000000 in
theorem names_ok (f : Fm) (v : Value) (w : World) (hrep : Rep w (fun _ => True) f v) (s : Nat) (hc : chk f 0 = .ok s) :
    Calls Try.prog 66 #[v] w fun e w' => ∃ x, e = .returned (.tuple #[x, .agg #[.int .i64 0, .int .i64 0]]) ∧ TL w' x (nmsU f) ∧ Below w.heap.size w w' := by
  have hck := fun v (w : World) h => check_any f v w h
  have hcode : f.code = (0, 0) := by simp only [Fm.code, hc]
  rw [hcode] at hck
  have hsz := chk_size hc
  have hfi := fine_of_chk f 0 s hc
  have hea := fun cb hcb v wx h hi => each_any (names_visit w.heap.size cb hcb) none f v wx hsz hfi h hi
  have hm := hrep.move (ok' := (· < w.heap.size)) fun b hb _ => ⟨rfl, hb⟩
  have hnl : (nmsT f).length ≤ 200 := by
    unfold nmsT
    have := nmsOf_len (allN f)
    rw [allN_len] at this
    rw [List.length_map]; omega
  have hnt : (nmsT f).length = (nmsOf (allN f)).length := List.length_map ..
  have hme : (nmsT f).map encStr = (nmsOf (allN f)).map Value.string := map_enc _
  have hnu : nmsU f = Lib.compact (srt (nmsT f)) := rfl
  obtain ⟨k, n, ks⟩ := f
  obtain ⟨sl, cap, rfl⟩ := slice_shape hrep
  have HC : Hid (∀ v w, _ → Calls Try.prog 63 #[v] w _) := hck
  have HE : Hid (∀ (cb : Nat) (hcb : w.heap.size ≤ cb) (v : Value) (wx : World), Rep wx (· < w.heap.size) (.mk k n ks) v → InvN cb [] none wx → Calls Try.prog 78 _ wx _) := hea
  have HM : Hid (Rep w (· < w.heap.size) (.mk k n ks) (.agg #[.int .i64 k, .string n, .slice sl ks.length cap])) := hm
  have HT : Hid ((nmsT (.mk k n ks)).map encStr = (nmsOf (allN (.mk k n ks))).map Value.string ∧ (nmsT (.mk k n ks)).length = (nmsOf (allN (.mk k n ks))).length ∧ nmsU (.mk k n ks) = Lib.compact (srt (nmsT (.mk k n ks))) ∧ (nmsT (.mk k n ks)).length ≤ 200) := ⟨hme, hnt, hnu, hnl⟩
  have hmf : ∀ (fn : Fn) (first cap : Array Value) (w : World), (Instr.makeFunc fn first cap).run Try.prog w = .ok (.func fn first cap) w := fun _ _ _ _ => rfl
  clear hck hcode hc hea hm hnl hnt hme hnu
  generalize nmsT (.mk k n ks) = T at *
  generalize nmsU (.mk k n ks) = U at *
  go_enter Try.func66, Try.ntmps66
  go_wp2_with (first
    | (go_at_call 63
       refine (HC.out _ _ ((hrep.more _).more _)).mono ?_
       rintro e w1 ⟨rfl, hb1⟩
       have z1 := hb1.size
       simp at z1
       have q0 := below_keep hb1 (alloc_keep (blk_new w _) _)
       have q1 := below_keep hb1 (blk_new (w.alloc _) _)
       rw [show (w.alloc _).heap.size = w.heap.size + 1 by simp] at q1
       have B1 := below_join (below_more (below_more (Below.refl _ w) _) _) hb1
       have M1 : Hid (Rep w1 (· < w.heap.size) (.mk k n ks) (.agg #[.int .i64 k, .string n, .slice sl ks.length cap])) := HM.out.low B1
       obtain ⟨a0, a1, a2, -⟩ := blk3 q0
       have y0 : w.heap.size < w1.heap.size := lt_of_block q0
       have y1 : w.heap.size + 1 < w1.heap.size := lt_of_block q1)
    | (go_at_call 78
       have nb := blk_new (w1.alloc (.cells #[.int .i64 0, .int .i64 0] 25 (0, 0))) (.cells #[.slice none 0 0] 38 (0, 0))
       rw [show (w1.alloc (.cells #[.int .i64 0, .int .i64 0] 25 (0, 0))).heap.size = w1.heap.size + 1 by simp] at nb
       refine (HE.out (w1.heap.size + 1) (by omega) _ _ (M1.out.low (((Below.refl _ w1).alloc (by omega) _).alloc (by simp; omega) _)) ⟨none, 0, nb, rfl, ⟨rfl, Or.inl ⟨rfl, rfl⟩⟩⟩).mono ?_
       rintro e w2 ⟨rfl, ob', ⟨ad, cp, c1, c2, c3⟩, hk2, -⟩
       have r1 : w2.heap[w.heap.size + 1]? = some (.cells #[.int .i64 0, .int .i64 0] 25 (0, 0)) := (hk2.block _ (by simp; omega) ⟨by omega, by simp⟩).trans (alloc_keep (alloc_keep q1 _) _)
       have B2 : Below w.heap.size w w2 := (below_more (below_more B1 _) _).trans (hk2.below (by simp; omega) (fun b hb => ⟨by omega, by simp⟩))
       have HR : Hid (w2.ownsRow (w1.heap.size + 1 + 1) 9 1 (.slice ad (nmsOf (allN (.mk k n ks))).length cp) (nmsOf (allN (.mk k n ks))).length ((nmsOf (allN (.mk k n ks))).map Value.string)) := c3
       rw [← HT.out.2.1] at c1
       have zc := lt_of_block c1
       clear c2 c3 hk2 nb
       have HD : Hid ((ad = none ∧ T = [] ∧ cp = 0) ∨ ∃ g, ad = some ⟨g, 0, none⟩ ∧ w1.heap.size + 1 + 1 ≤ g ∧ w2.ownsRow (w1.heap.size + 1 + 1) 9 1 (.slice (some ⟨g, 0, none⟩) T.length cp) T.length (T.map encStr)) := by
         have h := HR.out
         rw [← HT.out.1, ← HT.out.2.1] at h
         rcases h.2 with ⟨hv, h0⟩ | ⟨g, cap', cur, hv, hg, -⟩
         · simp only [Value.slice.injEq] at hv
           exact Or.inl ⟨hv.1, List.length_eq_zero_iff.1 h0, hv.2.2⟩
         · simp only [Value.slice.injEq, true_and] at hv
           rw [hv.1] at h
           exact Or.inr ⟨g, hv.1, hg, h⟩
       clear HR
       have hd := HD.out
       clear HD
       rcases hd with ⟨rfl, hT, rfl⟩ | ⟨g, rfl, hgg, hown⟩
       case' inl =>
         subst hT
         have HUn : Hid (U = []) := HT.out.2.2.1.trans uniq_nil
         replace c1 : w2.heap[w1.heap.size + 1]? = some (.cells #[.slice none 0 0] 38 (0, 0)) := c1
       case' inr =>
         have HO : Hid (w2.ownsRow (w1.heap.size + 1 + 1) 9 1 (.slice (some ⟨g, 0, none⟩) T.length cp) T.length (T.map encStr)) := hown
         clear hown
       all_goals obtain ⟨k1, k2⟩ := blk1 c1)
    | (go_at_call 81
       have ho := HO.out
       refine (sort_any (w1.heap.size + 1 + 1) g cp T HT.out.2.2.2 _ ho).mono ?_
       rintro e w3 ⟨rfl, ho3, hg3⟩
       have HO3 : Hid (w3.ownsRow (w1.heap.size + 1 + 1) 9 1 (.slice (some ⟨g, 0, none⟩) T.length cp) T.length ((srt T).map encStr)) := ho3
       have s1 := (hg3.block _ zc (fun e => by have : w1.heap.size + 1 = g := Option.some.inj e; omega)).trans c1
       have s2 := (hg3.block _ (lt_of_block r1) (fun e => by have : w.heap.size + 1 = g := Option.some.inj e; omega)).trans r1
       have B3 : Below w.heap.size w w3 := B2.trans ⟨hg3.os, hg3.tape, hg3.output, hg3.size, fun j hj => hg3.block j (by have := B2.size; omega) (fun e => by have : j = g := Option.some.inj e; omega)⟩
       clear ho3 hg3 k1 k2
       obtain ⟨k1, k2⟩ := blk1 s1)
    | (go_at_call 81
       have hu := HUn.out
       refine (Try.slices_Sort_string_none _ _ _).mono ?_
       rintro e w3 ⟨rfl, rfl⟩
       obtain ⟨p0, p1, p2, p3⟩ := blk2 r1)
    | (go_at_call 82
       have ho := HO3.out
       have hsl : (srt T).length = T.length := List.length_mergeSort ..
       have hun := uniq_any (w1.heap.size + 1 + 1) g cp (srt T) (by rw [hsl]; exact HT.out.2.2.2) w3 (by rw [hsl]; exact ho)
       rw [hsl, ← HT.out.2.2.1] at hun
       refine hun.mono ?_
       rintro e w4 ⟨rfl, hcells, hg4⟩
       have t2 := (hg4.block _ (lt_of_block s2) (fun e => by have : w.heap.size + 1 = g := Option.some.inj e; omega)).trans s2
       have B4 : Below w.heap.size w w4 := B3.trans ⟨hg4.os, hg4.tape, hg4.output, hg4.size, fun j hj => hg4.block j (by have := B3.size; omega) (fun e => by have : j = g := Option.some.inj e; omega)⟩
       have HCe : Hid (∀ (j : Nat) (t : List UInt8), U[j]? = some t → w4.cell? ⟨g, j, none⟩ = some (encStr t)) := hcells
       have HUl : Hid (U.length ≤ cp ∧ cp ≤ maxLen) := by
         have h1 := compact_len (srt T)
         rw [hsl, ← HT.out.2.2.1] at h1
         rcases ho.2 with ⟨hv, -⟩ | ⟨g', cap', cur, hv, -, -, h2, h3, -⟩
         · cases hv
         · cases hv
           exact ⟨by omega, h3⟩
       clear hun hcells hg4
       obtain ⟨p0, p1, p2, p3⟩ := blk2 t2)
    | (go_at_call 82
       have hu := HUn.out
       refine (Try.slices_Compact_string_empty _ _ _).mono ?_
       rintro e w4 ⟨rfl, rfl⟩)
    | fail)
  · have f2 := set2 t2 (.int .i64 0) (.int .i64 0)
    have b2 := (B4.setCell (p := ⟨w.heap.size + 1, 0, none⟩) (by simp) (.int .i64 0)).setCell (p := ⟨w.heap.size + 1, 1, none⟩) (by simp) (.int .i64 0)
    have TF : TL ((w4.setCell ⟨w.heap.size + 1, 0, none⟩ (.int .i64 0)).setCell ⟨w.heap.size + 1, 1, none⟩ (.int .i64 0)) (.slice (some ⟨g, 0, none⟩) U.length cp) U := by
      refine ⟨_, cp, rfl, HUl.out.1, HUl.out.2, fun _ => ⟨g, rfl, fun j t ht => ?_⟩⟩
      rw [World.cell?_setCell_far _ _ _ _ (by simp; omega), World.cell?_setCell_far _ _ _ _ (by simp; omega)]
      exact HCe.out j t ht
    generalize World.setCell _ _ _ = F at f2 b2 TF ⊢
    clear p0 p1 p2 p3
    obtain ⟨p0, p1, -⟩ := blk2 f2
    exact bodyPost_ret (v := .tuple #[.slice (some ⟨g, 0, none⟩) U.length cp, .agg #[.int .i64 0, .int .i64 0]]) (by simp [results, Try.results66, go_sem, p0, p1]) rfl ⟨_, rfl, TF, b2⟩
  · have f2 := set2 r1 (.int .i64 0) (.int .i64 0)
    have b2 := (B2.setCell (p := ⟨w.heap.size + 1, 0, none⟩) (by simp) (.int .i64 0)).setCell (p := ⟨w.heap.size + 1, 1, none⟩) (by simp) (.int .i64 0)
    generalize World.setCell _ _ _ = F at f2 b2 ⊢
    clear p0 p1 p2 p3
    obtain ⟨p0, p1, -⟩ := blk2 f2
    exact bodyPost_ret (v := .tuple #[.slice none 0 0, .agg #[.int .i64 0, .int .i64 0]]) (by simp [results, Try.results66, go_sem, p0, p1]) rfl ⟨_, rfl, by rw [HUn.out]; exact TL.nil, b2⟩
end Go.Proofs.Ytknngeojhiejnab
/- What a formula for a name does to names and sizes. -/
namespace Go.Proofs.Ytknngeojhiejnab

theorem allN_leaf (k : Int) (n : ByteArray) : allN (.mk k n []) = [.mk k n []] := by rw [allN, allNs]
theorem allN_two (k : Int) (n : ByteArray) (f g : Fm) : allN (.mk k n [f, g]) = .mk k n [f, g] :: (allN f ++ allN g) := by rw [allN, allNs, allNs, allNs, List.append_nil]

end Go.Proofs.Ytknngeojhiejnab
/- Walks: what FormulaSwaps calls. -/
namespace Go.Proofs.Ytknngeojhiejnab
open Go.RowKit

set_option maxHeartbeats 1000000 in
theorem named_any (n : ByteArray) (w : World) :
    Calls Try.prog 37 #[.string n] w fun e w' => e = .returned (.agg #[.int .i64 1, .string n, .slice none 0 0]) ∧ Below w.heap.size w w' := by
  have B := (Below.refl w.heap.size w).alloc (Nat.le_refl _)
  go_enter Try.func37, Try.ntmps37
  go_wp2_with fail
  exact bodyPost_ret (v := .agg #[.int .i64 1, .string n, .slice none 0 0]) (by simp [results, Try.results37, go_sem]) rfl ⟨rfl, B _⟩

theorem code_zero {f : Fm} (h : f.code.1 = 0) : f.code = (0, 0) := by
  rcases hx : chk f 0 with s | ⟨c, a⟩
  · simp only [Fm.code, hx]
  · have := chk_code f 0 c a hx
    simp only [Fm.code, hx] at h
    exact absurd h this
theorem code_chk {f : Fm} (h : f.code = (0, 0)) : ∃ s, chk f 0 = .ok s := by
  rcases hx : chk f 0 with s | ⟨c, a⟩
  · exact ⟨s, rfl⟩
  · have := chk_code f 0 c a hx
    simp only [Fm.code, hx] at h
    exact absurd (Prod.mk.inj h).1 this

/-- What Put answers. -/
inductive PutR (f : Fm) (nm : ByteArray) (g : Fm) : Fm → Int → Int → Prop
  | ok (h1 : f.code = (0, 0)) (h2 : g.code = (0, 0)) (h3 : isNm nm.data.toList = true) (h4 : cntW nm g.size (allN f) ≤ 200) : PutR f nm g (putF nm g f) 0 0
  | bad1 (c a : Int) (hc : c ≠ 0) (h1 : f.code = (c, a)) : PutR f nm g (.mk 0 e0 []) c a
  | bad2 (c a : Int) (hc : c ≠ 0) (h1 : f.code = (0, 0)) (h2 : g.code = (c, a)) : PutR f nm g (.mk 0 e0 []) c a
  | bad3 (h1 : f.code = (0, 0)) (h2 : g.code = (0, 0)) (h3 : isNm nm.data.toList = false) : PutR f nm g (.mk 0 e0 []) 8 0
  | bad4 (h1 : f.code = (0, 0)) (h2 : g.code = (0, 0)) (h3 : isNm nm.data.toList = true) (h4 : 200 < cntW nm g.size (allN f)) : PutR f nm g (.mk 0 e0 []) 10 0

theorem PutR.zero {f : Fm} {nm : ByteArray} {g r : Fm} {a : Int} (h : PutR f nm g r 0 a) : a = 0 ∧ r = putF nm g f ∧ f.code = (0, 0) ∧ g.code = (0, 0) ∧ isNm nm.data.toList = true ∧ cntW nm g.size (allN f) ≤ 200 := by
  cases h with
  | ok h1 h2 h3 h4 => exact ⟨rfl, rfl, h1, h2, h3, h4⟩
  | bad1 _ _ hc _ => exact absurd rfl hc
  | bad2 _ _ hc _ _ => exact absurd rfl hc

end Go.Proofs.Ytknngeojhiejnab
/- Walks: lists of texts and of formulas, as the yardstick compares them. -/
namespace Go.Proofs.Ytknngeojhiejnab
open Go.RowKit

set_option maxHeartbeats 1000000 in
theorem texts_same (l : List (List UInt8)) (v u : Value) (w : World) (h : TL w v l) (h' : TL w u l) :
    Calls Try.prog 38 #[v, u] w fun e w' => e = .returned (.bool true) ∧ Below w.heap.size w w' := by
  obtain ⟨ad, cap, rfl, h1, h2, h3⟩ := h
  obtain ⟨ad', cap', rfl, h1', h2', h3'⟩ := h'
  have hlI : (l.length : Int) ≤ 9223372036854775807 := by unfold maxLen at h2; omega
  have H3 : Hid (l ≠ [] → ∃ g, ad = some ⟨g, 0, none⟩ ∧ ∀ (j : Nat) (t : List UInt8), l[j]? = some t → w.cell? ⟨g, j, none⟩ = some (.string ⟨t.toArray⟩)) := h3
  have H4 : Hid (l ≠ [] → ∃ g, ad' = some ⟨g, 0, none⟩ ∧ ∀ (j : Nat) (t : List UInt8), l[j]? = some t → w.cell? ⟨g, j, none⟩ = some (.string ⟨t.toArray⟩)) := h3'
  clear h3 h3'
  go_enter Try.func38, Try.ntmps38
  go_wp2_with fail
  go_loopg [5] l.length (fun g c wr => ∃ i, i ≤ l.length ∧ g = l.length - i ∧ c = .int .i64 (i : Nat) ∧ Below w.heap.size w wr ∧ (∀ a : Addr, wr.cell? a = w.cell? a))
  case atStart => exact ⟨0, by omega, by omega, rfl, Below.refl _ _, fun _ => rfl⟩
  case round =>
    obtain ⟨i, hi, hg, rfl, hbr, hce⟩ := hrel
    have HG : Hid (gk = l.length - i) := hg
    have HCe : Hid (∀ a : Addr, wr.cell? a = w.cell? a) := hce
    clear hg hce
    by_cases hlt : i < l.length
    · obtain ⟨x, hx⟩ : ∃ x, l[i]? = some x := ⟨_, List.getElem?_eq_getElem hlt⟩
      obtain ⟨g, rfl, hc⟩ := H3.out (fun e => by rw [e] at hlt; simp at hlt)
      obtain ⟨g', rfl, hc'⟩ := H4.out (fun e => by rw [e] at hlt; simp at hlt)
      have g0 := (HCe.out _).trans (hc i x hx)
      have g1 := (HCe.out _).trans (hc' i x hx)
      have hltI : (i : Int) < (l.length : Int) := by omega
      have hlc : (i : Int) < (cap : Int) := by omega
      have hlc' : (i : Int) < (cap' : Int) := by omega
      clear hc hc' hx H3 H4
      generalize (⟨x.toArray⟩ : ByteArray) = X at *
      go_wp2_with fail
      go_quiet (fail)
      go_wp2_with fail
      go_roundg (l.length - (i + 1))
      case measure => have := HG.out; omega
      case rel => exact ⟨i + 1, by omega, rfl, by go_num, ⟨hbr.os, hbr.tape, hbr.output, hbr.size, hbr.block⟩, fun a => HCe.out a⟩
    · have hge : ¬ (i : Int) < (l.length : Int) := by omega
      clear H3 H4
      go_wp2_with fail
      go_ret
      exact ⟨rfl, hbr⟩

/-- A list of formulas in memory. -/
def FL (w : World) (v : Value) (fs : List Fm) : Prop := ∃ ad cap, v = .slice ad fs.length cap ∧ fs.length ≤ cap ∧ cap ≤ maxLen ∧ (fs ≠ [] → ∃ b off, ad = some ⟨b, off, none⟩ ∧ Reps w (fun _ => True) b off fs)
theorem FL.up {w w' : World} {v : Value} {fs : List Fm} (h : FL w v fs) (hb : Below w.heap.size w w') : FL w' v fs := by
  obtain ⟨ad, cap, h1, h2, h3, h4⟩ := h
  refine ⟨ad, cap, h1, h2, h3, fun hne => ?_⟩
  obtain ⟨b, off, h5, h6⟩ := h4 hne
  exact ⟨b, off, h5, h6.up hb⟩

end Go.Proofs.Ytknngeojhiejnab
/- Walks: the program's own comparison of formulas. -/
namespace Go.Proofs.Ytknngeojhiejnab
open Go.RowKit

theorem Rep.kids {w : World} {k : Int} {n : ByteArray} {ks : List Fm} {sl : Option Addr} {cap : Nat} (h : Rep w (fun _ => True) (.mk k n ks) (.agg #[.int .i64 k, .string n, .slice sl ks.length cap])) : FL w (.slice sl ks.length cap) ks := by
  obtain ⟨sl', cap', hv, -, h1, h2, h3⟩ := Rep.def.1 h
  simp only [Value.agg.injEq, Array.mk.injEq, List.cons.injEq, Value.slice.injEq, true_and, and_true] at hv
  obtain ⟨rfl, rfl⟩ := hv
  refine ⟨sl, cap, rfl, h1, h2, fun hne => ?_⟩
  obtain ⟨b, off, hs, -, hr⟩ := h3 hne
  exact ⟨b, off, hs, hr⟩

/-! Where a formula is in a list. -/
end Go.Proofs.Ytknngeojhiejnab
/- Walks: Parts. -/
namespace Go.Proofs.Ytknngeojhiejnab
open Go.RowKit

theorem KO.list {B : Nat} {w : World} {ad : Option Addr} {cap : Nat} {fs : List Fm} (h : KO B w ad cap fs) : FL w (.slice ad fs.length cap) fs :=
  (h.rep 0 e0 (by decide)).all.kids

end Go.Proofs.Ytknngeojhiejnab
/- Walks: a formula for a name, as the yardstick has it. -/
namespace Go.Proofs.Ytknngeojhiejnab
open Go.RowKit

/-- What has been made so far: a list whose formulas lie where P holds. -/
def KP (P : Nat → Prop) (B : Nat) (w : World) (ad : Option Addr) (cap : Nat) (fs : List Fm) : Prop := ∃ cs, w.ownsRow B 37 3 (.slice ad fs.length cap) fs.length cs ∧ LQ (fun b => P b ∧ (Value.slice ad fs.length cap).ownBlock ≠ some b) w cs fs

theorem KP.nil {P : Nat → Prop} {B : Nat} {w : World} : KP P B w none 0 [] := ⟨[], ⟨rfl, Or.inl ⟨rfl, rfl⟩⟩, trivial⟩
theorem KP.same {P : Nat → Prop} {B : Nat} {w w' : World} {ad : Option Addr} {cap : Nat} {fs : List Fm} (h : KP P B w ad cap fs) (hb : ∀ b, P b ∨ B ≤ b → b < w.heap.size → w'.heap[b]? = w.heap[b]?) : KP P B w' ad cap fs := by
  obtain ⟨cs, ⟨h1, h2⟩, h3⟩ := h
  refine ⟨cs, ⟨h1, ?_⟩, h3.move fun b hb1 hb2 => ⟨hb b (Or.inl hb2.1) hb1, hb2⟩⟩
  rcases h2 with h2 | ⟨g, cap, cur, hv, hg, hh, r⟩
  · exact Or.inl h2
  · exact Or.inr ⟨g, cap, cur, hv, hg, (hb g (Or.inr hg) (lt_of_block hh)).trans hh, r⟩
theorem KP.up {P : Nat → Prop} {B : Nat} {w w' : World} {ad : Option Addr} {cap : Nat} {fs : List Fm} (h : KP P B w ad cap fs) (hb : Below w.heap.size w w') : KP P B w' ad cap fs := h.same fun b _ hb1 => hb.block b hb1

theorem KP.app {P : Nat → Prop} {B : Nat} {w1 w3 : World} {o : Obj} {ad : Option Addr} {cp : Nat} {fs : List Fm} {kid : Fm} {c0 c1 c2 : Value} {cs : List Value} {g3 cp3 i : Nat} (hi : fs.length = i) (hB : B ≤ w1.heap.size)
    (hown : (w1.alloc o).ownsRow B 37 3 (.slice ad i cp) i cs) (hlq : LQ (fun b => P b ∧ (Value.slice ad i cp).ownBlock ≠ some b) (w1.alloc o) cs fs)
    (hrep : Rep w1 (fun b => P b ∧ (Value.slice ad i cp).ownBlock ≠ some b) kid (.agg #[c0, c1, c2]))
    (hown3 : w3.ownsRow B 37 3 (.slice (some ⟨g3, 0, none⟩) (i + 1) cp3) (i + 1) (cs ++ [c0, c1, c2]))
    (hgrow : (w1.alloc o).grownBy w3 (Value.slice ad i cp).ownBlock) (hat : (Value.slice ad i cp).ownBlock = some g3 ∨ g3 = (w1.alloc o).heap.size) :
    Below B w1 w3 ∧ KP P B w3 (some ⟨g3, 0, none⟩) cp3 (fs ++ [kid]) := by
  subst hi
  have hs : (w1.alloc o).heap.size = w1.heap.size + 1 := by simp
  have hs2 := hgrow.size
  refine ⟨⟨hgrow.os, hgrow.tape, hgrow.output, by omega, fun j hj => ?_⟩, cs ++ [c0, c1, c2], ?_, ?_⟩
  · rw [hgrow.block j (by omega) (fun e => by have := (hown.lt j e.symm).1; omega), Below.heap_alloc _ _ _ (by omega)]
  · rw [List.length_append]; exact hown3
  · refine (hlq.append (ds := [c0, c1, c2]) (gs := [kid]) ⟨hrep.move fun b hb hok => ⟨Below.heap_alloc _ _ _ hb, hok⟩, trivial⟩).move fun b hb hok => ⟨hgrow.block b hb (fun e => hok.2 e.symm), hok.1, fun e => ?_⟩
    have e : g3 = b := by simpa [Value.ownBlock] using e
    rcases hat with h | h
    · exact hok.2 (by rw [h, e])
    · omega

theorem KP.rep {P : Nat → Prop} {B : Nat} {w : World} {ad : Option Addr} {cap : Nat} {ks : List Fm} (h : KP P B w ad cap ks) (hPB : ∀ b, B ≤ b → P b) (k : Int) (n : ByteArray) (hn : n.size ≤ maxLen) : Rep w P (.mk k n ks) (.agg #[.int .i64 k, .string n, .slice ad ks.length cap]) := by
  obtain ⟨cs, hown, hlq⟩ := h
  rcases hown.2 with ⟨hv, h0⟩ | ⟨g, cp, cur, hv, hg, hh, h1, h2, -⟩
  · simp only [Value.slice.injEq] at hv
    obtain ⟨rfl, -, rfl⟩ := hv
    exact Rep.def.2 ⟨none, 0, rfl, hn, by omega, by simp, fun hne => absurd (List.length_eq_zero_iff.1 h0) hne⟩
  · simp only [Value.slice.injEq, true_and] at hv
    obtain ⟨rfl, rfl⟩ := hv
    refine Rep.def.2 ⟨_, cap, rfl, hn, h1, h2, fun _ => ⟨g, 0, rfl, hPB g hg, ?_⟩⟩
    exact (hlq.move (ok' := P) fun b _ hb => ⟨rfl, hb.1⟩).reps (b := g) 0 fun j u hu => by
      have := hown.cells (g := g) rfl j u hu
      rw [add_none] at this
      rw [Nat.zero_add] at this ⊢
      exact this

end Go.Proofs.Ytknngeojhiejnab
/- Walks: the parts of a formula, as the yardstick tells them. -/
namespace Go.Proofs.Ytknngeojhiejnab
open Go.RowKit

theorem KP.list {P : Nat → Prop} {B : Nat} {w : World} {ad : Option Addr} {cap : Nat} {fs : List Fm} (h : KP P B w ad cap fs) (hPB : ∀ b, B ≤ b → P b) : FL w (.slice ad fs.length cap) fs :=
  (h.rep hPB 0 e0 (by decide)).all.kids

end Go.Proofs.Ytknngeojhiejnab
/- Names, rising, each once: such a list is told by what is in it. -/
namespace Go.Proofs.Ytknngeojhiejnab
open Go.Sort

abbrev Rising (l : List (List UInt8)) : Prop := l.Pairwise (· < ·)

theorem lt_irr (a : List UInt8) : ¬ a < a := List.lt_irrefl a
theorem lt_asy {a b : List UInt8} (h : a < b) : ¬ b < a := fun k => lt_irr a (List.lt_trans h k)
theorem lt_tot (a b : List UInt8) : a < b ∨ a = b ∨ b < a := by
  rcases Classical.em (a < b) with h | h
  · exact Or.inl h
  · rcases Classical.em (b < a) with k | k
    · exact Or.inr (Or.inr k)
    · exact Or.inr (Or.inl (List.le_antisymm (List.not_lt.1 k) (List.not_lt.1 h)))

theorem rising_ext : ∀ {l m : List (List UInt8)}, Rising l → Rising m → (∀ t, t ∈ l ↔ t ∈ m) → l = m
  | [], [], _, _, _ => rfl
  | [], b :: m, _, _, h => absurd ((h b).2 (List.mem_cons_self ..)) (by simp)
  | a :: l, [], _, _, h => absurd ((h a).1 (List.mem_cons_self ..)) (by simp)
  | a :: l, b :: m, hl, hm, h => by
    obtain ⟨hl1, hl2⟩ := List.pairwise_cons.1 hl
    obtain ⟨hm1, hm2⟩ := List.pairwise_cons.1 hm
    have hab : a = b := by
      rcases List.mem_cons.1 ((h a).1 (List.mem_cons_self ..)) with e | e
      · exact e
      · rcases List.mem_cons.1 ((h b).2 (List.mem_cons_self ..)) with k | k
        · exact k.symm
        · exact absurd (hl1 b k) (lt_asy (hm1 a e))
    subst hab
    congr 1
    refine rising_ext hl2 hm2 fun t => ⟨fun ht => ?_, fun ht => ?_⟩
    · rcases List.mem_cons.1 ((h t).1 (List.mem_cons_of_mem _ ht)) with e | e
      · subst e; exact absurd (hl1 t ht) (lt_irr t)
      · exact e
    · rcases List.mem_cons.1 ((h t).2 (List.mem_cons_of_mem _ ht)) with e | e
      · subst e; exact absurd (hm1 t ht) (lt_irr t)
      · exact e

theorem nmsU_rising (f : Fm) : Rising (nmsU f) := by
  unfold nmsU
  have hs : (srt (nmsT f)).Pairwise (fun a b => decide (a ≤ b) = true) :=
    List.pairwise_mergeSort (fun a b c h1 h2 => by
      simp only [decide_eq_true_eq] at *
      exact List.le_trans h1 h2) (fun a b => by
      simp only [Bool.or_eq_true, decide_eq_true_eq]
      exact List.le_total a b) _
  generalize srt (nmsT f) = zs at *
  have hle : ∀ i j, i ≤ j → j < zs.length → zs.toArray[i]! ≤ zs.toArray[j]! := by
    intro i j hij hj
    rw [getElem!_pos _ i (by simp; omega), getElem!_pos _ j (by simpa using hj)]
    simp only [List.getElem_toArray]
    rcases Nat.lt_or_ge i j with h | h
    · have := List.pairwise_iff_getElem.1 hs i j (by omega) hj h
      simpa using this
    · obtain rfl : i = j := by omega
      exact List.le_refl _
  unfold Lib.compact Lib.compactUpTo
  rw [Rising, List.pairwise_map]
  refine List.Pairwise.imp_of_mem ?_ ((List.pairwise_lt_range (n := zs.length)).filter _)
  intro i j hi hj hij
  have hj1 := List.mem_range.1 (List.mem_filter.1 hj).1
  have hk : zs.toArray[j]! ≠ zs.toArray[j - 1]! := by
    have := (List.mem_filter.1 hj).2
    simp only [Lib.keeps, decide_eq_true_eq] at this
    rcases this with h | h
    · omega
    · exact h
  have h1 := hle i (j - 1) (by omega) (by omega)
  have h2 := hle (j - 1) j (by omega) hj1
  rcases lt_tot zs.toArray[i]! zs.toArray[j]! with h | h | h
  · exact h
  · rw [h] at h1
    exact absurd (List.le_antisymm h1 h2) hk
  · exact absurd (hle i j (by omega) hj1) (List.not_le.2 h)

end Go.Proofs.Ytknngeojhiejnab
/- Walks: the names of a formula, as the yardstick tells them. -/
namespace Go.Proofs.Ytknngeojhiejnab
open Go.RowKit Go.Sort

/-- A list of texts that is being made. -/
def KS (B : Nat) (w : World) (ad : Option Addr) (cap : Nat) (l : List (List UInt8)) : Prop := w.ownsRow B 9 1 (.slice ad l.length cap) l.length (l.map encStr)
theorem KS.nil {B : Nat} {w : World} : KS B w none 0 [] := ⟨rfl, Or.inl ⟨rfl, rfl⟩⟩
theorem KS.up {B : Nat} {w w' : World} {ad : Option Addr} {cap : Nat} {l : List (List UInt8)} (h : KS B w ad cap l) (hb : Below w.heap.size w w') : KS B w' ad cap l := owns_up h hb
theorem KS.cell {B : Nat} {w : World} {g cap : Nat} {l : List (List UInt8)} (h : KS B w (some ⟨g, 0, none⟩) cap l) (j : Nat) (t : List UInt8) (ht : l[j]? = some t) : w.cell? ⟨g, j, none⟩ = some (.string ⟨t.toArray⟩) := by
  have := h.cells (g := g) rfl j (encStr t) (by rw [List.getElem?_map, ht]; rfl)
  rw [add_none, Nat.zero_add] at this
  exact this
theorem KS.list {B : Nat} {w : World} {ad : Option Addr} {cap : Nat} {l : List (List UInt8)} (h : KS B w ad cap l) : TL w (.slice ad l.length cap) l := by
  have h' := h
  rcases h'.2 with ⟨hv, h0⟩ | ⟨g, cap', cur, hv, hg, hh, h1, h2, -⟩
  · simp only [Value.slice.injEq] at hv
    exact ⟨ad, cap, rfl, by omega, by rw [hv.2.2]; simp, fun hne => absurd (List.length_eq_zero_iff.1 h0) hne⟩
  · simp only [Value.slice.injEq, true_and] at hv
    obtain ⟨rfl, rfl⟩ := hv
    exact ⟨_, cap, rfl, h1, h2, fun _ => ⟨g, rfl, fun j t ht => h.cell j t ht⟩⟩
theorem owns_take {w : World} {B g n cap : Nat} {T : TypeId} {xs : List Value} (h : w.ownsRow B T 1 (.slice (some ⟨g, 0, none⟩) n cap) n xs) (a : Nat) (ha : a ≤ n) : w.ownsRow B T 1 (.slice (some ⟨g, 0, none⟩) a cap) a (xs.take a) := by
  obtain ⟨h0, h⟩ := h
  rcases h with ⟨hv, -⟩ | ⟨g', cap', cur, hv, hg, hh, h1, h2, h3, h4⟩
  · cases hv
  · cases hv
    refine ⟨by rw [List.length_take, h0]; omega, Or.inr ⟨g, cap, cur, rfl, hg, hh, by omega, h2, h3, ?_⟩⟩
    rw [← h4, List.take_take]
    congr 1; omega

theorem KS.drop {B : Nat} {w : World} {g cap : Nat} {L : List (List UInt8)} (h : KS B w (some ⟨g, 0, none⟩) cap L) (a : Nat) : ∀ (j : Nat) (u : Value), ((L.drop a).map encStr)[j]? = some u → w.cell? ((⟨g, a, none⟩ : Addr).add j) = some u := fun j u hu => by
  rw [List.getElem?_map, List.getElem?_drop] at hu
  obtain ⟨t, ht, rfl⟩ := Option.map_eq_some_iff.1 hu
  rw [add_none]
  exact h.cell (a + j) t ht
theorem KS.take {B : Nat} {w : World} {g cap : Nat} {L : List (List UInt8)} (h : KS B w (some ⟨g, 0, none⟩) cap L) (a : Nat) (ha : a ≤ L.length) : w.ownsRow B 9 1 (.slice (some ⟨g, 0, none⟩) a cap) a ((L.take a).map encStr) := by
  have := owns_take h a ha
  rwa [← List.map_take] at this
theorem KS.keep {B : Nat} {w w' : World} {g cap : Nat} {L : List (List UInt8)} (h : KS B w (some ⟨g, 0, none⟩) cap L) (he : w'.heap[g]? = w.heap[g]?) : KS B w' (some ⟨g, 0, none⟩) cap L := by
  obtain ⟨h1, h2⟩ := h
  refine ⟨h1, ?_⟩
  rcases h2 with ⟨hv, -⟩ | ⟨g', cap', cur, hv, hg, hh, r⟩
  · cases hv
  · cases hv
    exact Or.inr ⟨g, cap, cur, rfl, hg, he.trans hh, r⟩

end Go.Proofs.Ytknngeojhiejnab
/- Walks: FormulaParts, its two copies. -/
namespace Go.Proofs.Ytknngeojhiejnab
open Go.RowKit

/-- A fault is laid into its block. -/
theorem flt_set {w w6 : World} {R : Nat} {x0 x1 : Value} (hR : w.heap.size ≤ R) (B : Below w.heap.size w w6) (q : w6.heap[R]? = some (.cells #[x0, x1] 25 (0, 0))) (c a : Int) :
    ((w6.setCell ⟨R, 0, none⟩ (.int .i64 c)).setCell ⟨R, 1, none⟩ (.int .i64 a)).heap[R]? = some (.cells #[.int .i64 c, .int .i64 a] 25 (0, 0)) ∧ Below w.heap.size w ((w6.setCell ⟨R, 0, none⟩ (.int .i64 c)).setCell ⟨R, 1, none⟩ (.int .i64 a)) ∧ ∀ b, b ≠ R → ((w6.setCell ⟨R, 0, none⟩ (.int .i64 c)).setCell ⟨R, 1, none⟩ (.int .i64 a)).heap[b]? = w6.heap[b]? :=
  ⟨set2 q _ _, (B.setCell (by simpa using hR) _).setCell (by simpa using hR) _, fun b hb => by rw [Below.heap_setCell _ _ _ _ (by simpa using hb), Below.heap_setCell _ _ _ _ (by simpa using hb)]⟩

end Go.Proofs.Ytknngeojhiejnab
/- The plain mathematics of layer 2: where a formula is true; the first node that is a box or a diamond. -/
namespace Go.Proofs.Ytknngeojhiejnab

def val (k : Int) (pn : Bool) (l : List Bool) : Bool :=
  if k = 1 then pn else if k = 4 then !(l.getD 0 false) else if k = 5 then l.getD 0 false && l.getD 1 false else if k = 6 then l.getD 0 false || l.getD 1 false else if k = 7 then !(l.getD 0 false) || l.getD 1 false else decide (k = 2)

mutual
def tv (p : List UInt8 → Bool) : Fm → Bool
  | .mk k n ks => val k (p n.data.toList) (tvs p ks)
def tvs (p : List UInt8 → Bool) : List Fm → List Bool
  | [] => []
  | f :: fs => tv p f :: tvs p fs
end

theorem tv_name (p : List UInt8 → Bool) (n : ByteArray) : tv p (.mk 1 n []) = p n.data.toList := by rw [tv]; rfl
theorem tv_true (p : List UInt8 → Bool) : tv p (.mk 2 ⟨#[]⟩ []) = true := by rw [tv]; rfl
theorem tv_false (p : List UInt8 → Bool) : tv p (.mk 3 ⟨#[]⟩ []) = false := by rw [tv]; rfl
theorem tv_not (p : List UInt8 → Bool) (f : Fm) : tv p (.mk 4 ⟨#[]⟩ [f]) = !tv p f := by rw [tv, tvs, tvs]; rfl
theorem tv_and (p : List UInt8 → Bool) (f g : Fm) : tv p (.mk 5 ⟨#[]⟩ [f, g]) = (tv p f && tv p g) := by rw [tv, tvs, tvs, tvs]; rfl
theorem tv_or (p : List UInt8 → Bool) (f g : Fm) : tv p (.mk 6 ⟨#[]⟩ [f, g]) = (tv p f || tv p g) := by rw [tv, tvs, tvs, tvs]; rfl
theorem tv_then (p : List UInt8 → Bool) (f g : Fm) : tv p (.mk 7 ⟨#[]⟩ [f, g]) = (!tv p f || tv p g) := by rw [tv, tvs, tvs, tvs]; rfl

def isM (k : Int) : Bool := decide (k = 8) || decide (k = 9)

mutual
def modal : Fm → Nat → Nat × Bool
  | .mk k _ ks, a => if isM k then (a, true) else modals ks (a + 1)
def modals : List Fm → Nat → Nat × Bool
  | [], a => (a, false)
  | f :: fs, a => if (modal f a).2 then ((modal f a).1, true) else modals fs (modal f a).1
end

/-- The first of these nodes. -/
def mIdx : List Fm → Nat → Nat × Bool
  | [], a => (a, false)
  | f :: fs, a => if isM f.kind then (a, true) else mIdx fs (a + 1)

theorem mIdx_append : ∀ (l m : List Fm) (a : Nat), mIdx (l ++ m) a = if (mIdx l a).2 then mIdx l a else mIdx m (mIdx l a).1
  | [], m, a => by simp [mIdx]
  | f :: fs, m, a => by
    rw [List.cons_append, mIdx, mIdx]
    split
    · simp
    · exact mIdx_append fs m (a + 1)

mutual
theorem modal_idx : ∀ (f : Fm) (a : Nat), modal f a = mIdx (allN f) a
  | .mk k n ks, a => by
    rw [modal, allN, mIdx, modals_idx ks (a + 1)]
    rfl
theorem modals_idx : ∀ (fs : List Fm) (a : Nat), modals fs a = mIdx (allNs fs) a
  | [], a => by rw [modals, allNs, mIdx]
  | f :: fs, a => by
    rw [modals, allNs, mIdx_append, modal_idx f a, modals_idx fs]
    split
    · rename_i h
      rw [← h]
    · rfl
end

theorem mIdx_le : ∀ (l : List Fm) (a : Nat), a ≤ (mIdx l a).1 ∧ (mIdx l a).1 ≤ a + l.length ∧ ((mIdx l a).2 = false → (mIdx l a).1 = a + l.length)
  | [], a => by simp [mIdx]
  | f :: fs, a => by
    rw [mIdx]
    have := mIdx_le fs (a + 1)
    split
    · simp
    · simp only [List.length_cons]
      exact ⟨by omega, by omega, fun h => by have := this.2.2 h; omega⟩

theorem modal_le (f : Fm) (a : Nat) : a ≤ (modal f a).1 ∧ (modal f a).1 ≤ a + f.size := by
  rw [modal_idx]
  have := mIdx_le (allN f) a
  rw [allN_len] at this
  exact ⟨this.1, this.2.1⟩

/-- No box, no diamond anywhere. -/
def Plain (f : Fm) : Prop := (mIdx (allN f) 0).2 = false

theorem mIdx_no : ∀ (l : List Fm) (a : Nat), (mIdx l a).2 = false ↔ ∀ f ∈ l, isM f.kind = false
  | [], a => by simp [mIdx]
  | f :: fs, a => by
    rw [mIdx]
    split
    · rename_i h; simp [h]
    · rename_i h
      rw [mIdx_no fs (a + 1)]
      simp [h]

theorem plain_iff (f : Fm) : Plain f ↔ ∀ g ∈ allN f, isM g.kind = false := mIdx_no _ _
theorem Plain.kind {k : Int} {n : ByteArray} {ks : List Fm} (h : Plain (.mk k n ks)) : isM k = false := by
  rw [plain_iff] at h
  exact h (.mk k n ks) (by rw [allN]; simp)
theorem allNs_mem {ks : List Fm} {g x : Fm} (h : g ∈ ks) (hx : x ∈ allN g) : x ∈ allNs ks := by
  induction ks with
  | nil => cases h
  | cons k ks ih =>
    rw [allNs, List.mem_append]
    rcases List.mem_cons.1 h with rfl | h
    · exact Or.inl hx
    · exact Or.inr (ih h)
theorem Plain.kid {k : Int} {n : ByteArray} {ks : List Fm} (h : Plain (.mk k n ks)) {g : Fm} (hg : g ∈ ks) : Plain g := by
  rw [plain_iff] at *
  intro x hx
  exact h x (by rw [allN]; exact List.mem_cons_of_mem _ (allNs_mem hg hx))
end Go.Proofs.Ytknngeojhiejnab
