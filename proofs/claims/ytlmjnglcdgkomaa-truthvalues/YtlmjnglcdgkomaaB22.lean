/- Texts of one proof, one behind the other: Tr6, Tr7, Tr8. -/
import Derived.Test.YtlmjnglcdgkomaaB14
import Derived.Test.YtlmjnglcdgkomaaB20
/- Walks: the first place of a bool; the names that are true in a row. -/
namespace Go.Proofs.Ytlmjnglcdgkomaa
open Go.RowKit Go.Sort

/-- Where a bool stands first, or -1. -/
def fIdx (l : List Bool) (b : Bool) : Int := if b ∈ l then (l.idxOf b : Nat) else -1

set_option maxHeartbeats 1000000 in
theorem index_bool (l : List Bool) (hl : l.length ≤ 1000) (b : Bool) (v : Value) (w : World) (h : BL w v l) :
    Calls Try.prog 75 #[v, .bool b] w fun e w' => e = .returned (.int .i64 (fIdx l b)) ∧ w' = w := by
  obtain ⟨ad, cap, rfl, h1, h2, h3⟩ := h; (have hlI : (l.length : Int) ≤ 1000 := by omega); have H3 : Hid (l ≠ [] → ∃ g off, ad = some ⟨g, off, none⟩ ∧ ∀ (j : Nat) (b : Bool), l[j]? = some b → w.cell? ⟨g, off + j, none⟩ = some (.bool b)) := h3; clear h3
  go_enter Try.func75, Try.ntmps75
  go_wp2_with fail
  go_loopg [8] l.length (fun g c wr => ∃ i, i ≤ l.length ∧ g = l.length - i ∧ c = .int .i64 (i : Nat) ∧ wr = w ∧ Hid (b ∉ l.take i))
  case atStart => exact ⟨0, by omega, by omega, rfl, rfl, by show _ ∉ _; simp⟩
  case round =>
    obtain ⟨i, hi, hg, rfl, rfl, HN⟩ := hrel; have HG : Hid (gk = l.length - i) := hg; clear hg; by_cases hlt : i < l.length
    · obtain ⟨x, hx⟩ : ∃ x, l[i]? = some x := ⟨_, List.getElem?_eq_getElem hlt⟩
      (obtain ⟨g, off, rfl, hc⟩ := H3.out (fun e => by rw [e] at hlt; simp at hlt)); have g0 := hc i x hx; (have hltI : (i : Int) < (l.length : Int) := by omega); (have hlc : (i : Int) < (cap : Int) := by omega); have HX : Hid (l[i]? = some x) := hx; clear hc hx H3; by_cases hxt : b = x
      · subst hxt
        have HD : Hid (fIdx l b = ((i : Nat) : Int)) := by
          show _ = _; have hm : b ∈ l := List.mem_of_getElem? HX.out
          have hdec : l = l.take i ++ b :: l.drop (i + 1) := by
            have := HX.out; rw [List.getElem?_eq_getElem hlt] at this; have e := Option.some.inj this; rw [← e, ← List.drop_eq_getElem_cons hlt, List.take_append_drop]
          have hix : l.idxOf b = i := by
            rw [hdec, List.idxOf_append, if_neg HN.out, List.idxOf_cons_self, List.length_take]; omega
          unfold fIdx; rw [if_pos hm, hix]
        go_wp2_with fail; go_ret; (exact ⟨by rw [HD.out]; rfl, rfl⟩)
      · have hne : (b == x) = false := by simpa using hxt
        have HNN : Hid (b ∉ l.take (i + 1)) := by
          show _ ∉ _; rw [List.take_add_one, HX.out]; intro hm
          rcases List.mem_append.1 hm with h | h
          · exact HN.out h
          · simp at h; exact hxt h
        clear HX; go_wp2_with fail
        go_roundg (l.length - (i + 1))
        case measure => have := HG.out; omega
        case rel => exact ⟨i + 1, by omega, rfl, by go_num, rfl, HNN⟩
    · have HD : Hid (fIdx l b = -1) := by
        show _ = _; have := HN.out; (rw [List.take_of_length_le (by omega)] at this); exact if_neg this
      (have hge : ¬ (i : Int) < (l.length : Int) := by omega); clear H3 HN; go_wp2_with fail; go_ret; (exact ⟨by rw [HD.out]; rfl, rfl⟩)

/-- The names that are true in a row. -/
def rowN (r : Nat) : List (List UInt8) → Nat → List (List UInt8)
  | [], _ => []
  | t :: l, i => if r.testBit i then t :: rowN r l (i + 1) else rowN r l (i + 1)
theorem rowN_snoc (r : Nat) : ∀ (l : List (List UInt8)) (i : Nat) (t : List UInt8), rowN r (l ++ [t]) i = rowN r l i ++ if r.testBit (i + l.length) then [t] else []
  | [], i, t => by simp [rowN]
  | s :: l, i, t => by
    (rw [List.cons_append, rowN, rowN, rowN_snoc r l (i + 1) t, List.length_cons, show i + 1 + l.length = i + (l.length + 1) by omega])
    split <;> simp
theorem rowN_len (r : Nat) : ∀ (l : List (List UInt8)) (i : Nat), (rowN r l i).length ≤ l.length
  | [], i => by simp [rowN]
  | s :: l, i => by
    rw [rowN]; have := rowN_len r l (i + 1)
    split <;> simp <;> omega

theorem below_grown {B : Nat} {W w w5 : World} {ad : Option Addr} {cy n : Nat} {o : Obj} {xs : List Value} {T : TypeId} (hB : Below B W w) (hBs : B ≤ w.heap.size) (hk : w.ownsRow B T 1 (.slice ad n cy) n xs) (hg5 : (w.alloc o).grownBy w5 (Value.slice ad n cy).ownBlock) : Below B W w5 := by
  have h1 : Below B W (w.alloc o) := hB.alloc hBs o; (exact h1.trans ⟨hg5.os, hg5.tape, hg5.output, hg5.size, fun j hj => hg5.block j (by simp; omega) (fun e => by have := (World.ownsRow.lt hk j e.symm).1; omega)⟩)

set_option maxHeartbeats 2000000 in
theorem trueIn_any (r : Nat) (hr : r ≤ 100000) (l : List (List UInt8)) (hl : l.length ≤ 1000) (u : Value) (w : World) (hu : SL w u l) :
    Calls Try.prog 76 #[.int .i64 (r : Nat), u] w fun e w' => ∃ x, e = .returned x ∧ TL w' x (rowN r l 0) ∧ Below w.heap.size w w' := by
  obtain ⟨ad, cap, rfl, h1, h2, h3⟩ := hu; (have hlI : (l.length : Int) ≤ 1000 := by omega); have H3 : Hid (l ≠ [] → ∃ g off, ad = some ⟨g, off, none⟩ ∧ ∀ (j : Nat) (t : List UInt8), l[j]? = some t → w.cell? ⟨g, off + j, none⟩ = some (.string ⟨t.toArray⟩)) := h3; obtain ⟨i0, hi, hz0, hz1, hz2⟩ := infoText; clear h3
  go_enter Try.func76, Try.ntmps76
  go_wp2_with fail
  go_loopg [10, 5] l.length (fun g c o wr => ∃ i ad cy, i ≤ l.length ∧ g = l.length - i ∧ c = .int .i64 (i : Nat) ∧ o = .slice ad (rowN r (l.take i) 0).length cy ∧ Below w.heap.size w wr ∧ Hid (KS w.heap.size wr ad cy (rowN r (l.take i) 0)))
  case atStart => exact ⟨0, none, 0, by omega, by omega, rfl, rfl, Below.refl _ _, KS.nil⟩
  case round =>
    obtain ⟨i, ad', cy, hile, hg, rfl, rfl, hbr, HK⟩ := hrel; have HG : Hid (gk = l.length - i) := hg; clear hg; by_cases hlt : i < l.length
    · obtain ⟨t, ht⟩ : ∃ x, l[i]? = some x := ⟨_, List.getElem?_eq_getElem hlt⟩
      (obtain ⟨g, off, rfl, hc⟩ := H3.out (fun e => by rw [e] at hlt; simp at hlt)); have g0 := (hbr.cell (p := ⟨g, off + i, none⟩) (lt_of_cell (hc i t ht))).trans (hc i t ht); (have hltI : (i : Int) < (l.length : Int) := by omega); (have hlc : (i : Int) < (cap : Int) := by omega); (have hti : (l.take i).length = i := by rw [List.length_take]; omega)
      have hT : rowN r (l.take (i + 1)) 0 = rowN r (l.take i) 0 ++ if r.testBit i then [t] else [] := by
        rw [List.take_add_one, ht]; show rowN r (_ ++ [t]) 0 = _; rw [rowN_snoc, hti, Nat.zero_add]
      have hRl := rowN_len r (l.take i) 0; (have hdi := digit_any r i hr (by omega)); generalize hR : rowN r (l.take i) 0 = R at *; rw [hti] at hRl; have HDi : Hid (∀ w, Calls Try.prog 102 _ w _) := hdi; clear hc ht H3 hdi hR
      rcases hb : r.testBit i with _ | _
      · rw [hb] at hT HDi
        have HT : Hid (rowN r (l.take (i + 1)) 0 = R) := by
          show _ = _; rw [hT]; simp
        clear hT hb
        go_wp2_with (first
          | (go_at_call 102
             refine (HDi.out _).mono ?_
             rintro e w1 ⟨rfl, rfl⟩)
          | fail)
        go_roundg (l.length - (i + 1))
        case measure => have := HG.out; omega
        case rel => exact ⟨i + 1, ad', cy, by omega, rfl, by go_num, by rw [HT.out], hbr, by show KS _ _ _ _ _; rw [HT.out]; exact HK.out⟩
      · rw [hb] at hT HDi
        have HT : Hid (rowN r (l.take (i + 1)) 0 = R ++ [t]) := by
          show _ = _; rw [hT]; simp
        clear hT hb
        go_wp2_with (first
          | (go_at_call 102
             refine (HDi.out _).mono ?_; rintro e w1 ⟨rfl, hw1⟩; have hw2 := hw1.symm
             subst hw2)
          | (at_builtin
             (refine wpList_append_lies _ rfl _ _ 39 rfl w.heap.size 9 i0 (.string ⟨#[]⟩) 1 16 Try.underlying39 hi hz0 hz1 hz2 rfl (by decide) _ _ _ rfl (owns_up HK.out ((Below.refl _ wr).alloc (Nat.le_refl _) (.cells #[.string ⟨t.toArray⟩] 9 (0, 0)))) ⟨wr.heap.size, 0, none⟩ 1 1 [.string ⟨t.toArray⟩] rfl rfl ?_ ?_ (by omega) (by unfold maxLen; omega) (by omega) (by have := hbr.size; simp; omega) _ rfl ?_)
             · intro j u hu
               rw [add_none, Nat.zero_add, blk_cell (blk_new wr _)]; simpa using hu
             · intro u hu
               simp at hu
               rcases hu with rfl; rfl
             intro g5 cp5 w5 hown5 hgrow5 hat5 hlt5; have BF := below_grown hbr hbr.size HK.out hgrow5
             have HKN : Hid (KS w.heap.size w5 (some ⟨g5, 0, none⟩) cp5 (R ++ [t])) := by
               show KS _ _ _ _ _; unfold KS; rw [List.map_append, List.length_append]; exact hown5
             clear hown5 hgrow5 hat5)
          | fail)
        go_roundg (l.length - (i + 1))
        case measure => have := HG.out; omega
        case rel => exact ⟨i + 1, some ⟨g5, 0, none⟩, cp5, by omega, rfl, by go_num, by rw [HT.out, List.length_append]; rfl, BF, by show KS _ _ _ _ _; rw [HT.out]; exact HKN.out⟩
    · have HKE : Hid (KS w.heap.size wr ad' cy (rowN r l 0)) := by
        have := HK.out; (rw [List.take_of_length_le (by omega)] at this); exact this
      (have hTE : rowN r (l.take i) 0 = rowN r l 0 := by rw [List.take_of_length_le (by omega)]); (have hge : ¬ (i : Int) < (l.length : Int) := by omega); clear HK H3; rw [hTE]; clear hTE; go_wp2_with fail; go_ret; exact ⟨_, rfl, HKE.out.list, hbr⟩
end Go.Proofs.Ytlmjnglcdgkomaa
/- Walks: namesOfPlain, Rows. -/
namespace Go.Proofs.Ytlmjnglcdgkomaa
open Go.RowKit Go.Sort

theorem code_split (f : Fm) : f.code.1 = 0 → ∃ s, chk f 0 = .ok s := fun h => code_chk (code_zero h)
theorem pcode_ok {f : Fm} (h : f.pcode.1 = 0) : (∃ s, chk f 0 = .ok s) ∧ Plain f ∧ f.pcode = (0, 0) := by
  unfold Fm.pcode at *; by_cases hc : f.code.1 = 0
  · rw [if_pos hc] at h ⊢
    rcases hm : (modal f 0).2 with _ | _
    · refine ⟨code_split f hc, ?_, by simp⟩
      rw [modal_idx] at hm; exact hm
    · rw [hm] at h; simp at h
  · rw [if_neg hc] at h
    exact absurd h hc
theorem pcode_of {f : Fm} {s : Nat} (h : chk f 0 = .ok s) (hp : Plain f) : f.pcode = (0, 0) := by
  (have hc : f.code = (0, 0) := by simp only [Fm.code, h]); unfold Fm.pcode; rw [hc, if_pos rfl, modal_idx]; have : (mIdx (allN f) 0).2 = false := hp; rw [this]; rfl

mutual
theorem fine_nodes : ∀ (f : Fm), Fine f → ∀ g ∈ allN f, Fine g
  | .mk k n ks, h, g, hg => by
    rw [allN] at hg
    rcases List.mem_cons.1 hg with rfl | hg
    · exact h
    · exact fine_nodess ks (fun x hx => by
        obtain ⟨i, hi, rfl⟩ := List.getElem_of_mem hx
        exact h.kid i _ (List.getElem?_eq_getElem hi)) g hg
theorem fine_nodess : ∀ (fs : List Fm), (∀ x ∈ fs, Fine x) → ∀ g ∈ allNs fs, Fine g
  | [], _, g, hg => by rw [allNs] at hg; cases hg
  | f :: fs, h, g, hg => by
    rw [allNs] at hg
    rcases List.mem_append.1 hg with hg | hg
    · exact fine_nodes f (h f (List.mem_cons_self ..)) g hg
    · exact fine_nodess fs (fun x hx => h x (List.mem_cons_of_mem _ hx)) g hg
end
theorem nmsOf_mem : ∀ (l : List Fm) (t : ByteArray), t ∈ nmsOf l ↔ ∃ ks, Fm.mk 1 t ks ∈ l
  | [], t => by simp [nmsOf]
  | .mk k n ks :: l, t => by
    rw [nmsOf]
    split
    · rename_i hk
      subst hk; rw [List.mem_cons, nmsOf_mem l t]
      constructor
      · rintro (rfl | ⟨x, hx⟩)
        · exact ⟨ks, List.mem_cons_self ..⟩
        · exact ⟨x, List.mem_cons_of_mem _ hx⟩
      · rintro ⟨x, hx⟩
        rcases List.mem_cons.1 hx with h | h
        · injection h with _ h _; exact Or.inl h
        · exact Or.inr ⟨x, h⟩
    · rename_i hk
      rw [nmsOf_mem l t]
      constructor
      · rintro ⟨x, hx⟩; exact ⟨x, List.mem_cons_of_mem _ hx⟩
      · rintro ⟨x, hx⟩
        rcases List.mem_cons.1 hx with h | h
        · injection h with h _ _; exact absurd h.symm hk
        · exact ⟨x, h⟩
theorem nmsU_nm {f : Fm} (hf : Fine f) (t : List UInt8) (ht : t ∈ nmsU f) : isNm t = true := by
  rw [nmsU_mem] at ht; unfold nmsT at ht; obtain ⟨b, hb, rfl⟩ := List.mem_map.1 ht; obtain ⟨ks, hk⟩ := (nmsOf_mem _ _).1 hb; have := fine_nodes f hf _ hk
  rcases this.forms with ⟨m, e, hn⟩ | e | e | ⟨c, g, hk, e, hg⟩ | ⟨c, g, g', hk, e, hg, hg'⟩
  · cases e; exact hn
  · cases e
  · cases e
  · injection e with e _ _; subst e; rcases hk with h | h | h <;> cases h
  · injection e with e _ _; subst e; rcases hk with h | h | h <;> cases h
theorem nmsU_small {f : Fm} (hf : Fine f) (t : List UInt8) (ht : t ∈ nmsU f) : t.length ≤ 8 := by
  have := isNm_bd (nmsU_nm hf t ht); omega
theorem nmsU_nodup (f : Fm) : (nmsU f).Nodup := (nmsU_rising f).imp fun h e => by subst e; exact lt_irr _ h
theorem TL.sl {w : World} {v : Value} {l : List (List UInt8)} (h : TL w v l) : SL w v l := by
  obtain ⟨ad, cap, h1, h2, h3, h4⟩ := h; (refine ⟨ad, cap, h1, h2, h3, fun hne => ?_⟩); obtain ⟨g, h5, h6⟩ := h4 hne; (exact ⟨g, 0, h5, fun j t ht => by rw [Nat.zero_add]; exact h6 j t ht⟩)

theorem int2_no {w : World} {b : Nat} {c0 c1 : Int} {T : TypeId} (hb : w.heap[b]? = some (.cells #[.int .i64 c0, .int .i64 c1] T (0, 0))) {g j : Nat} {u : Value} (h : w.cell? ⟨g, j, none⟩ = some u) (hu : ∀ c, u ≠ .int .i64 c) : g ≠ b := by
  rintro rfl; rw [blk_cell hb] at h
  rcases j with _ | _ | j
  · simp at h; exact hu _ h.symm
  · simp at h; exact hu _ h.symm
  · simp at h
theorem TL.set2 {w : World} {v : Value} {l : List (List UInt8)} {b : Nat} {c0 c1 : Int} {T : TypeId} (h : TL w v l) (hb : w.heap[b]? = some (.cells #[.int .i64 c0, .int .i64 c1] T (0, 0))) (u u' : Value) : TL ((w.setCell ⟨b, 0, none⟩ u).setCell ⟨b, 1, none⟩ u') v l := by
  obtain ⟨ad, cap, h1, h2, h3, h4⟩ := h; (refine ⟨ad, cap, h1, h2, h3, fun hne => ?_⟩); obtain ⟨g, h5, h6⟩ := h4 hne; (refine ⟨g, h5, fun j t ht => ?_⟩); (have hg := int2_no hb (h6 j t ht) (fun c => by simp)); (rw [World.cell?_setCell_far _ _ _ _ (by simpa using hg.symm), World.cell?_setCell_far _ _ _ _ (by simpa using hg.symm)]); exact h6 j t ht
theorem BL.set2 {w : World} {v : Value} {l : List Bool} {b : Nat} {c0 c1 : Int} {T : TypeId} (h : BL w v l) (hb : w.heap[b]? = some (.cells #[.int .i64 c0, .int .i64 c1] T (0, 0))) (u u' : Value) : BL ((w.setCell ⟨b, 0, none⟩ u).setCell ⟨b, 1, none⟩ u') v l := by
  obtain ⟨ad, cap, h1, h2, h3, h4⟩ := h; (refine ⟨ad, cap, h1, h2, h3, fun hne => ?_⟩); obtain ⟨g, off, h5, h6⟩ := h4 hne; (refine ⟨g, off, h5, fun j t ht => ?_⟩); (have hg := int2_no hb (h6 j t ht) (fun c => by simp)); (rw [World.cell?_setCell_far _ _ _ _ (by simpa using hg.symm), World.cell?_setCell_far _ _ _ _ (by simpa using hg.symm)]); exact h6 j t ht

set_option maxHeartbeats 2000000 in
theorem np_bad (f : Fm) (v : Value) (w : World) (hrep : Rep w (fun _ => True) f v) (c a : Int) (hc : c ≠ 0) (hcf : f.pcode = (c, a)) :
    Calls Try.prog 73 #[v] w fun e w' => e = .returned (.tuple #[.slice none 0 0, .agg #[.int .i64 c, .int .i64 a]]) ∧ Below w.heap.size w w' := by
  (have hck := fun v (w : World) h => plainFault_any f v w h); rw [hcf] at hck; (have hne' : (c != 0) = true := by simpa using hc); obtain ⟨k, n, ks⟩ := f; obtain ⟨sl, cap, rfl⟩ := slice_shape hrep; have HC : Hid (∀ v w, _ → Calls Try.prog 67 #[v] w _) := hck; clear hck hcf hc
  go_enter Try.func73, Try.ntmps73
  go_wp2_with (first
    | (go_at_call 67
       refine (HC.out _ _ ((hrep.more _).more _)).mono ?_; rintro e w1 ⟨rfl, hb1⟩; have z1 := hb1.size; simp at z1; have q1 := below_keep hb1 (blk_new (w.alloc _) _); (rw [show (w.alloc _).heap.size = w.heap.size + 1 by simp] at q1); have B1 := below_join (below_more (below_more (Below.refl _ w) _) _) hb1; obtain ⟨k1, k2, k3, k4⟩ := blk2 q1; (have d1 : ¬ w.heap.size + 1 = w1.heap.size := by omega); (have d2 : ¬ w1.heap.size = w.heap.size + 1 := by omega)
       have d3 : w.heap.size + 1 < w1.heap.size := by omega)
    | fail)
  go_region
  all_goals go_wp2
  have f2 := set2 q1 (.int .i64 c) (.int .i64 a); (have b2 := (B1.setCell (p := ⟨w.heap.size + 1, 0, none⟩) (by simp) (.int .i64 c)).setCell (p := ⟨w.heap.size + 1, 1, none⟩) (by simp) (.int .i64 a)); (have hsz : ((w1.setCell ⟨w.heap.size + 1, 0, none⟩ (.int .i64 c)).setCell ⟨w.heap.size + 1, 1, none⟩ (.int .i64 a)).heap.size = w1.heap.size := by simp [World.setCell]); generalize World.setCell _ _ _ = F at f2 b2 hsz ⊢; clear k1 k2 k3 k4; obtain ⟨k1, k2, -⟩ := blk2 f2; (have d4 : w.heap.size + 1 < F.heap.size := by omega); (exact bodyPost_ret (v := .tuple #[.slice none 0 0, .agg #[.int .i64 c, .int .i64 a]]) (by simp [results, Try.results73, go_sem, k1, k2, d4]) rfl ⟨rfl, (b2.alloc (by omega) _).drew⟩)

set_option maxHeartbeats 2000000 in
theorem np_good (f : Fm) (v : Value) (w : World) (hrep : Rep w (fun _ => True) f v) (hcf : f.pcode = (0, 0)) :
    Calls Try.prog 73 #[v] w fun e w' => ((6 < (nmsU f).length ∧ e = .returned (.tuple #[.slice none 0 0, .agg #[.int .i64 2, .int .i64 0]])) ∨ ((nmsU f).length ≤ 6 ∧ ∃ x, e = .returned (.tuple #[x, .agg #[.int .i64 0, .int .i64 0]]) ∧ TL w' x (nmsU f))) ∧ Below w.heap.size w w' := by
  (have hck := fun v (w : World) h => plainFault_any f v w h); (obtain ⟨⟨s, hs⟩, -, -⟩ := pcode_ok (f := f) (by rw [hcf])); rw [hcf] at hck; (have hnm := fun v (w : World) h => names_ok f v w h s hs)
  have hnl : (nmsU f).length ≤ 200 := by
    have h1 : (nmsU f).length ≤ (nmsT f).length := by
      unfold nmsU; have := compact_len (srt (nmsT f))
      rwa [List.length_mergeSort] at this
    unfold nmsT at h1; have := nmsOf_len (allN f); have h2 := chk_size hs; rw [allN_len] at this; rw [List.length_map] at h1; omega
  generalize nmsU f = U at *; obtain ⟨k, n, ks⟩ := f; obtain ⟨sl, cap, rfl⟩ := slice_shape hrep; have HC : Hid (∀ v w, _ → Calls Try.prog 67 #[v] w _) := hck; have HN : Hid (∀ v w, _ → Calls Try.prog 20 #[v] w _) := hnm; (have hlI : (U.length : Int) ≤ 200 := by omega); clear hck hcf hnm hs
  go_enter Try.func73, Try.ntmps73
  by_cases h6 : 6 < U.length
  · have h6I : (6 : Int) < (U.length : Int) := by omega
    go_wp2_with (first
      | (go_at_call 67
         refine (HC.out _ _ ((hrep.more _).more _)).mono ?_; rintro e w1 ⟨rfl, hb1⟩; have z1 := hb1.size; simp at z1; have q0 := below_keep hb1 (alloc_keep (blk_new w _) _); have q1 := below_keep hb1 (blk_new (w.alloc _) _); (rw [show (w.alloc _).heap.size = w.heap.size + 1 by simp] at q1); have B1 := below_join (below_more (below_more (Below.refl _ w) _) _) hb1; obtain ⟨a0, a1, a2, -⟩ := blk3 q0; have y0 : w.heap.size < w1.heap.size := lt_of_block q0
         have y1 : w.heap.size + 1 < w1.heap.size := lt_of_block q1)
      | (go_at_call 20
         refine (HN.out _ _ ((hrep.up B1).more _)).mono ?_; rintro e w2 ⟨x, rfl, htl, hb2⟩; have HTL : Hid (TL w2 x U) := htl; obtain ⟨adU, cpU, rfl, -⟩ := htl; have r1 := below_keep hb2 (alloc_keep q1 _); have B2 := below_join (below_more B1 _) hb2; have l1 := lt_of_block r1; (have d2 : ¬ w2.heap.size = w.heap.size + 1 := by omega); (have d1 : ¬ w.heap.size + 1 = w2.heap.size := by omega)
         obtain ⟨k1, k2, k3, k4⟩ := blk2 r1)
      | fail)
    have f2 := set2 r1 (.int .i64 2) (.int .i64 0); (have b2 := (B2.setCell (p := ⟨w.heap.size + 1, 0, none⟩) (by simp) (.int .i64 2)).setCell (p := ⟨w.heap.size + 1, 1, none⟩) (by simp) (.int .i64 0)); (have hsz : ((w2.setCell ⟨w.heap.size + 1, 0, none⟩ (.int .i64 2)).setCell ⟨w.heap.size + 1, 1, none⟩ (.int .i64 0)).heap.size = w2.heap.size := by simp [World.setCell]); generalize World.setCell _ _ _ = F at f2 b2 hsz ⊢; clear k1 k2 k3 k4; obtain ⟨k1, k2, -⟩ := blk2 f2; (have d4 : w.heap.size + 1 < F.heap.size := by omega); (exact bodyPost_ret (v := .tuple #[.slice none 0 0, .agg #[.int .i64 2, .int .i64 0]]) (by simp [results, Try.results73, go_sem, k1, k2, d4]) rfl ⟨Or.inl ⟨h6, rfl⟩, b2.alloc (by omega) _⟩)
  · have h6I : ¬ (6 : Int) < (U.length : Int) := by omega
    go_wp2_with (first
      | (go_at_call 67
         refine (HC.out _ _ ((hrep.more _).more _)).mono ?_; rintro e w1 ⟨rfl, hb1⟩; have z1 := hb1.size; simp at z1; have q0 := below_keep hb1 (alloc_keep (blk_new w _) _); have q1 := below_keep hb1 (blk_new (w.alloc _) _); (rw [show (w.alloc _).heap.size = w.heap.size + 1 by simp] at q1); have B1 := below_join (below_more (below_more (Below.refl _ w) _) _) hb1; obtain ⟨a0, a1, a2, -⟩ := blk3 q0; have y0 : w.heap.size < w1.heap.size := lt_of_block q0
         have y1 : w.heap.size + 1 < w1.heap.size := lt_of_block q1)
      | (go_at_call 20
         refine (HN.out _ _ ((hrep.up B1).more _)).mono ?_; rintro e w2 ⟨x, rfl, htl, hb2⟩; have HTL : Hid (TL w2 x U) := htl; obtain ⟨adU, cpU, rfl, -⟩ := htl; have r1 := below_keep hb2 (alloc_keep q1 _); have B2 := below_join (below_more B1 _) hb2; have l1 := lt_of_block r1; (have d2 : ¬ w2.heap.size = w.heap.size + 1 := by omega); (have d1 : ¬ w.heap.size + 1 = w2.heap.size := by omega)
         obtain ⟨k1, k2, k3, k4⟩ := blk2 r1)
      | fail)
    have f2 := set2 r1 (.int .i64 0) (.int .i64 0); (have b2 := (B2.setCell (p := ⟨w.heap.size + 1, 0, none⟩) (by simp) (.int .i64 0)).setCell (p := ⟨w.heap.size + 1, 1, none⟩) (by simp) (.int .i64 0)); (have hsz : ((w2.setCell ⟨w.heap.size + 1, 0, none⟩ (.int .i64 0)).setCell ⟨w.heap.size + 1, 1, none⟩ (.int .i64 0)).heap.size = w2.heap.size := by simp [World.setCell]); have TF : TL ((w2.setCell ⟨w.heap.size + 1, 0, none⟩ (.int .i64 0)).setCell ⟨w.heap.size + 1, 1, none⟩ (.int .i64 0)) (.slice adU U.length cpU) U := HTL.out.set2 r1 _ _; generalize World.setCell _ _ _ = F at f2 b2 hsz TF ⊢; clear k1 k2 k3 k4; obtain ⟨k1, k2, -⟩ := blk2 f2; (have d4 : w.heap.size + 1 < F.heap.size := by omega); (exact bodyPost_ret (v := .tuple #[.slice adU U.length cpU, .agg #[.int .i64 0, .int .i64 0]]) (by simp [results, Try.results73, go_sem, k1, k2, d4]) rfl ⟨Or.inr ⟨by omega, _, rfl, TF.up ((Below.refl _ _).alloc (Nat.le_refl _) _)⟩, b2.alloc (by omega) _⟩)

/-- What Rows and Valid say of a formula. -/
def Fm.ncode (f : Fm) : Int × Int := if f.pcode.1 = 0 then (if 6 < (nmsU f).length then (2, 0) else (0, 0)) else f.pcode

theorem np_no (f : Fm) (c a : Int) (hc : c ≠ 0) (h : f.ncode = (c, a)) (v : Value) (w : World) (hrep : Rep w (fun _ => True) f v) :
    Calls Try.prog 73 #[v] w fun e w' => e = .returned (.tuple #[.slice none 0 0, .agg #[.int .i64 c, .int .i64 a]]) ∧ Below w.heap.size w w' := by
  unfold Fm.ncode at h; by_cases hp : f.pcode.1 = 0
  · rw [if_pos hp] at h
    by_cases h6 : 6 < (nmsU f).length
    · rw [if_pos h6] at h
      obtain ⟨rfl, rfl⟩ := Prod.mk.inj h; refine (np_good f v w hrep (pcode_ok hp).2.2).mono ?_; rintro e w' ⟨⟨-, h⟩ | ⟨h, -⟩, hb⟩
      · exact ⟨h, hb⟩
      · omega
    · rw [if_neg h6] at h
      exact absurd (Prod.mk.inj h).1.symm hc
  · rw [if_neg hp] at h
    exact np_bad f v w hrep c a hc h

theorem ncode_ok {f : Fm} (h : f.ncode.1 = 0) : f.ncode = (0, 0) ∧ (nmsU f).length ≤ 6 ∧ f.pcode = (0, 0) := by
  unfold Fm.ncode at *; by_cases hp : f.pcode.1 = 0
  · rw [if_pos hp] at h ⊢
    by_cases h6 : 6 < (nmsU f).length
    · rw [if_pos h6] at h; simp at h
    · rw [if_neg h6]
      (exact ⟨rfl, by omega, (pcode_ok hp).2.2⟩)
  · rw [if_neg hp] at h
    exact absurd h hp

theorem np_yes (f : Fm) (h : f.ncode.1 = 0) (v : Value) (w : World) (hrep : Rep w (fun _ => True) f v) :
    Calls Try.prog 73 #[v] w fun e w' => ∃ x, e = .returned (.tuple #[x, .agg #[.int .i64 0, .int .i64 0]]) ∧ TL w' x (nmsU f) ∧ Below w.heap.size w w' := by
  obtain ⟨-, h6, hp⟩ := ncode_ok h; refine (np_good f v w hrep hp).mono ?_; rintro e w' ⟨⟨h, -⟩ | ⟨-, x, rfl, ht⟩, hb⟩
  · omega
  · exact ⟨x, rfl, ht, hb⟩

theorem column_own (f : Fm) (h : f.ncode.1 = 0) (v u : Value) (w : World) (hv : Rep w (fun _ => True) f v) (hu : TL w u (nmsU f)) :
    Calls Try.prog 74 #[v, u] w fun e w' => ∃ x, e = .returned x ∧ BL w' x (colL f (nmsU f)) ∧ Below w.heap.size w w' := by
  obtain ⟨-, h6, hp⟩ := ncode_ok h; (obtain ⟨⟨s, hs⟩, hpl, -⟩ := pcode_ok (f := f) (by rw [hp])); have hf := fine_of_chk f 0 s hs; exact column_any f hf hpl (nmsU f) h6 (nmsU_nodup f) (nmsU_small hf) v u w hv hu.sl
end Go.Proofs.Ytlmjnglcdgkomaa
/- Walks: Rows, Valid. -/
namespace Go.Proofs.Ytlmjnglcdgkomaa
open Go.RowKit Go.Sort

set_option maxHeartbeats 2000000 in
theorem rows_no (f : Fm) (c a : Int) (hc : c ≠ 0) (hcf : f.ncode = (c, a)) (v : Value) (w : World) (hrep : Rep w (fun _ => True) f v) :
    Calls Try.prog 35 #[v] w fun e w' => e = .returned (.tuple #[.slice none 0 0, .agg #[.int .i64 c, .int .i64 a]]) ∧ Below w.heap.size w w' := by
  (have hck := fun v (w : World) h => np_no f c a hc hcf v w h); (have hne' : (c != 0) = true := by simpa using hc); obtain ⟨k, n, ks⟩ := f; obtain ⟨sl, cap, rfl⟩ := slice_shape hrep; have HC : Hid (∀ v w, _ → Calls Try.prog 73 #[v] w _) := hck; clear hck hcf hc
  go_enter Try.func35, Try.ntmps35
  go_wp2_with (first
    | (go_at_call 73
       refine (HC.out _ _ ((hrep.more _).more _)).mono ?_; rintro e w1 ⟨rfl, hb1⟩; have z1 := hb1.size; simp at z1; have q1 := below_keep hb1 (blk_new (w.alloc _) _); (rw [show (w.alloc _).heap.size = w.heap.size + 1 by simp] at q1); have B1 := below_join (below_more (below_more (Below.refl _ w) _) _) hb1; obtain ⟨k1, k2, k3, k4⟩ := blk2 q1; (have d1 : ¬ w.heap.size + 1 = w1.heap.size := by omega); (have d2 : ¬ w1.heap.size = w.heap.size + 1 := by omega)
       have d3 : w.heap.size + 1 < w1.heap.size := by omega)
    | fail)
  go_region
  all_goals go_wp2
  have f2 := set2 q1 (.int .i64 c) (.int .i64 a); (have b2 := (B1.setCell (p := ⟨w.heap.size + 1, 0, none⟩) (by simp) (.int .i64 c)).setCell (p := ⟨w.heap.size + 1, 1, none⟩) (by simp) (.int .i64 a)); (have hsz : ((w1.setCell ⟨w.heap.size + 1, 0, none⟩ (.int .i64 c)).setCell ⟨w.heap.size + 1, 1, none⟩ (.int .i64 a)).heap.size = w1.heap.size := by simp [World.setCell]); generalize World.setCell _ _ _ = F at f2 b2 hsz ⊢; clear k1 k2 k3 k4; obtain ⟨k1, k2, -⟩ := blk2 f2; (have d4 : w.heap.size + 1 < F.heap.size := by omega); (exact bodyPost_ret (v := .tuple #[.slice none 0 0, .agg #[.int .i64 c, .int .i64 a]]) (by simp [results, Try.results35, go_sem, k1, k2, d4]) rfl ⟨rfl, (b2.alloc (by omega) _).drew⟩)

set_option maxHeartbeats 2000000 in
theorem valid_no (f : Fm) (c a : Int) (hc : c ≠ 0) (hcf : f.ncode = (c, a)) (v : Value) (w : World) (hrep : Rep w (fun _ => True) f v) :
    Calls Try.prog 36 #[v] w fun e w' => e = .returned (.tuple #[.bool false, .slice none 0 0, .agg #[.int .i64 c, .int .i64 a]]) ∧ Below w.heap.size w w' := by
  (have hck := fun v (w : World) h => np_no f c a hc hcf v w h); (have hne' : (c != 0) = true := by simpa using hc); obtain ⟨k, n, ks⟩ := f; obtain ⟨sl, cap, rfl⟩ := slice_shape hrep; have HC : Hid (∀ v w, _ → Calls Try.prog 73 #[v] w _) := hck; clear hck hcf hc
  go_enter Try.func36, Try.ntmps36
  go_wp2_with (first
    | (go_at_call 73
       refine (HC.out _ _ ((hrep.more _).more _)).mono ?_; rintro e w1 ⟨rfl, hb1⟩; have z1 := hb1.size; simp at z1; have q1 := below_keep hb1 (blk_new (w.alloc _) _); (rw [show (w.alloc _).heap.size = w.heap.size + 1 by simp] at q1); have B1 := below_join (below_more (below_more (Below.refl _ w) _) _) hb1; obtain ⟨k1, k2, k3, k4⟩ := blk2 q1; (have d1 : ¬ w.heap.size + 1 = w1.heap.size := by omega); (have d2 : ¬ w1.heap.size = w.heap.size + 1 := by omega)
       have d3 : w.heap.size + 1 < w1.heap.size := by omega)
    | fail)
  go_region
  all_goals go_wp2
  have f2 := set2 q1 (.int .i64 c) (.int .i64 a); (have b2 := (B1.setCell (p := ⟨w.heap.size + 1, 0, none⟩) (by simp) (.int .i64 c)).setCell (p := ⟨w.heap.size + 1, 1, none⟩) (by simp) (.int .i64 a)); (have hsz : ((w1.setCell ⟨w.heap.size + 1, 0, none⟩ (.int .i64 c)).setCell ⟨w.heap.size + 1, 1, none⟩ (.int .i64 a)).heap.size = w1.heap.size := by simp [World.setCell]); generalize World.setCell _ _ _ = F at f2 b2 hsz ⊢; clear k1 k2 k3 k4; obtain ⟨k1, k2, -⟩ := blk2 f2; (have d4 : w.heap.size + 1 < F.heap.size := by omega); (exact bodyPost_ret (v := .tuple #[.bool false, .slice none 0 0, .agg #[.int .i64 c, .int .i64 a]]) (by simp [results, Try.results36, go_sem, k1, k2, d4]) rfl ⟨rfl, (b2.alloc (by omega) _).drew⟩)

set_option maxHeartbeats 2000000 in
theorem rows_yes (f : Fm) (h : f.ncode.1 = 0) (v : Value) (w : World) (hrep : Rep w (fun _ => True) f v) :
    Calls Try.prog 35 #[v] w fun e w' => ∃ x, e = .returned (.tuple #[x, .agg #[.int .i64 0, .int .i64 0]]) ∧ BL w' x (colL f (nmsU f)) ∧ Below w.heap.size w w' := by
  (have hck := fun v (w : World) h' => np_yes f h v w h'); (have hco := fun v u (w : World) h1 h2 => column_own f h v u w h1 h2); generalize nmsU f = U at *; generalize colL f U = C at *; obtain ⟨k, n, ks⟩ := f; obtain ⟨sl, cap, rfl⟩ := slice_shape hrep; have HC : Hid (∀ v w, _ → Calls Try.prog 73 #[v] w _) := hck; (have HD : Hid (∀ v u w, Rep w (fun _ => True) (.mk k n ks) v → TL w u U → Calls Try.prog 74 #[v, u] w _) := hco); clear hck hco h
  go_enter Try.func35, Try.ntmps35
  go_wp2_with (first
    | (go_at_call 73
       refine (HC.out _ _ ((hrep.more _).more _)).mono ?_; rintro e w1 ⟨x, rfl, htl, hb1⟩; have HTL : Hid (TL w1 x U) := htl; obtain ⟨adU, cpU, rfl, -⟩ := htl; have z1 := hb1.size; simp at z1; have q0 := below_keep hb1 (alloc_keep (blk_new w _) _); have q1 := below_keep hb1 (blk_new (w.alloc _) _); (rw [show (w.alloc _).heap.size = w.heap.size + 1 by simp] at q1); have B1 := below_join (below_more (below_more (Below.refl _ w) _) _) hb1; obtain ⟨a0, a1, a2, -⟩ := blk3 q0; have y0 : w.heap.size < w1.heap.size := lt_of_block q0
       have y1 : w.heap.size + 1 < w1.heap.size := lt_of_block q1)
    | (go_at_call 74
       refine (HD.out _ _ _ ((hrep.up B1).more _) (HTL.out.up ((Below.refl _ _).alloc (Nat.le_refl _) _))).mono ?_; rintro e w2 ⟨x, rfl, hbl, hb2⟩; have HBL : Hid (BL w2 x C) := hbl; obtain ⟨adC, cpC, rfl, -⟩ := hbl; have r1 := below_keep hb2 (alloc_keep q1 _); have B2 := below_join (below_more B1 _) hb2; have l1 := lt_of_block r1
       obtain ⟨k1, k2, k3, k4⟩ := blk2 r1)
    | fail)
  have f2 := set2 r1 (.int .i64 0) (.int .i64 0); (have b2 := (B2.setCell (p := ⟨w.heap.size + 1, 0, none⟩) (by simp) (.int .i64 0)).setCell (p := ⟨w.heap.size + 1, 1, none⟩) (by simp) (.int .i64 0)); have TF := HBL.out.set2 r1 (.int .i64 0) (.int .i64 0); generalize World.setCell _ _ _ = F at f2 b2 TF ⊢; clear k1 k2 k3 k4; obtain ⟨k1, k2, -⟩ := blk2 f2; (exact bodyPost_ret (v := .tuple #[.slice adC C.length cpC, .agg #[.int .i64 0, .int .i64 0]]) (by simp [results, Try.results35, go_sem, k1, k2]) rfl ⟨_, rfl, TF, b2⟩)
end Go.Proofs.Ytlmjnglcdgkomaa
