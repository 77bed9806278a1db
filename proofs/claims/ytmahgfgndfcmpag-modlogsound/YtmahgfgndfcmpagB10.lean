/- Texts of one proof, one behind the other: ME5, ME8, MS2, MS4, MS5, MA1, MAAD, MAAE, MA2. -/
import Derived.Test.YtmahgfgndfcmpagB06
import Derived.Test.YtmahgfgndfcmpagB05
import Derived.Test.YtmahgfgndfcmpagB04
import Derived.Laws.BitsLemmas
import Derived.Deep.RegionHeld3
import Derived.Test.YtmahgfgndfcmpagB07
import Derived.Test.YtmahgfgndfcmpagB01
import Derived.RegionTactic
import Derived.Deep.RegionLaw
import Derived.Deep.DeepCutAuto
import Derived.Sort.Walk0
import Derived.Deep.AppendSrc
/- Walks: what a model's worlds see, as sets. -/
namespace Go.Proofs.Ytmahgfgndfcmpag
open Go.RowKit

/-- Which pairs stand in a list. -/
def relB (rs : List (Int × Int)) (u v : Nat) : Bool := rs.contains ((u : Int), (v : Int))
theorem seeR_eq {N : Nat} {rel : List (Int × Int)} (hin : InR N rel) (u : Nat) : seeR N (relB rel) u = seenTo N rel u N := by
  rw [seeR, seenTo]; (refine List.filter_congr fun v hv => ?_); rw [List.mem_range] at hv; rw [Bool.eq_iff_iff, bitP_mem hin hv, relB, List.contains_iff_mem]
end Go.Proofs.Ytmahgfgndfcmpag
/- Walks: modal.Eval. -/
namespace Go.Proofs.Ytmahgfgndfcmpag
open Go.RowKit Go.Maps Go.WideMaps

/-- The names of a world, by its number. -/
def pT (tr : List (List (List UInt8))) (u : Nat) (s : List UInt8) : Bool := (tr.getD u []).contains s
theorem rowE1 (l : List Value) (h0 : l.length = 1) : ∃ x0, l = [x0] := by
  obtain ⟨x0, l1, e0, h1⟩ := cons_lenM h0; have e1 : l1 = [] := List.length_eq_zero_iff.1 h1; subst e1 e0; exact ⟨x0, rfl⟩
theorem rowE8 (l : List Value) (h0 : l.length = 8) : ∃ x0 x1 x2 x3 x4 x5 x6 x7, l = [x0, x1, x2, x3, x4, x5, x6, x7] := by
  obtain ⟨x0, l1, e0, h1⟩ := cons_lenM h0; obtain ⟨x1, l2, e1, h2⟩ := cons_lenM h1; obtain ⟨x2, l3, e2, h3⟩ := cons_lenM h2; obtain ⟨x3, l4, e3, h4⟩ := cons_lenM h3; obtain ⟨x4, l5, e4, h5⟩ := cons_lenM h4; obtain ⟨x5, l6, e5, h6⟩ := cons_lenM h5; obtain ⟨x6, l7, e6, h7⟩ := cons_lenM h6; obtain ⟨x7, l8, e7, h8⟩ := cons_lenM h7; have e8 : l8 = [] := List.length_eq_zero_iff.1 h8; subst e8 e7 e6 e5 e4 e3 e2 e1 e0; exact ⟨x0, x1, x2, x3, x4, x5, x6, x7, rfl⟩
end Go.Proofs.Ytmahgfgndfcmpag
/- Walks: frame.holds: all that might be true is gone through. -/
namespace Go.Proofs.Ytmahgfgndfcmpag
open Go.RowKit Go.Maps Go.WideMaps

theorem rowE6 (l : List Value) (h0 : l.length = 6) : ∃ x0 x1 x2 x3 x4 x5, l = [x0, x1, x2, x3, x4, x5] := by
  obtain ⟨x0, l1, e0, h1⟩ := cons_lenM h0; obtain ⟨x1, l2, e1, h2⟩ := cons_lenM h1; obtain ⟨x2, l3, e2, h3⟩ := cons_lenM h2; obtain ⟨x3, l4, e3, h4⟩ := cons_lenM h3; obtain ⟨x4, l5, e4, h5⟩ := cons_lenM h4; obtain ⟨x5, l6, e5, h6⟩ := cons_lenM h5; have e6 : l6 = [] := List.length_eq_zero_iff.1 h6; subst e6 e5 e4 e3 e2 e1 e0; exact ⟨x0, x1, x2, x3, x4, x5, rfl⟩
end Go.Proofs.Ytmahgfgndfcmpag
/- Walks: what is so of all worlds, and of all with those that they see. -/
namespace Go.Proofs.Ytmahgfgndfcmpag
open Go.RowKit Go.Sort

/-- Numbers in memory. -/
def NL (w : World) (v : Value) (l : List Nat) : Prop := ∃ ad cap, v = .slice ad l.length cap ∧ l.length ≤ cap ∧ cap ≤ maxLen ∧ (l ≠ [] → ∃ b, ad = some ⟨b, 0, none⟩ ∧ ∀ (j n : Nat), l[j]? = some n → w.cell? ⟨b, j, none⟩ = some (.int .i64 (n : Nat)))
theorem NL.up {w w' : World} {v : Value} {l : List Nat} (h : NL w v l) (hb : Below w.heap.size w w') : NL w' v l := by
  obtain ⟨ad, cap, h1, h2, h3, h4⟩ := h; (refine ⟨ad, cap, h1, h2, h3, fun hne => ?_⟩); obtain ⟨b, h5, h6⟩ := h4 hne; (exact ⟨b, h5, fun j n hj => (hb.cell (lt_of_cell (h6 j n hj))).trans (h6 j n hj)⟩)
def memTo (P : Nat → Bool) (i : Nat) : List Nat := (List.range i).filter P
theorem memTo_succ (P : Nat → Bool) (i : Nat) : memTo P (i + 1) = if P i = true then memTo P i ++ [i] else memTo P i := by
  rw [memTo, List.range_succ, List.filter_append, memTo]; (by_cases h : P i = true <;> simp [h])
theorem memTo_len (P : Nat → Bool) (i : Nat) : (memTo P i).length ≤ i := by
  have := List.length_filter_le P (List.range i)
  rwa [List.length_range] at this
set_option maxRecDepth 10000 in
set_option maxHeartbeats 4000000 in
theorem set_members {N : Nat} (hN : N ≤ 40) (P : Nat → Bool) (w : World) :
    Calls Try.prog 102 #[.int .u64 (bm N P : Nat), .int .i64 (N : Nat)] w fun e w' => ∃ x, e = .returned x ∧ NL w' x (memTo P N) ∧ Below w.heap.size w w' := by
  (have hNI : (N : Int) ≤ 40 := by omega); (have HH : Hid (∀ n, n < N → ∀ w, Calls Try.prog 62 #[.int .u64 (bm N P : Nat), .int .i64 (n : Nat)] w fun e w' => e = .returned (.bool (P n)) ∧ w' = w) := fun n hn w => set_has hN P n hn w); have HN : Hid (N ≤ 40) := hN; generalize bm N P = s at *; clear hN
  go_enter Try.func102, Try.ntmps102
  go_wp2_with fail
  go_loopg [8, 5] N (fun gg cc x wr => ∃ i ad cp, i ≤ N ∧ gg = N - i ∧ cc = .int .i64 (i : Nat) ∧ x = .slice ad (memTo P i).length cp ∧ Hid (wr.ownsRow w.heap.size 3 1 (.slice ad (memTo P i).length cp) (memTo P i).length ((memTo P i).map encI)) ∧ Hid (Below w.heap.size w wr))
  case atStart => exact ⟨0, none, 0, by omega, by omega, rfl, rfl, ⟨rfl, Or.inl ⟨rfl, rfl⟩⟩, Below.refl _ _⟩
  case round =>
    obtain ⟨i, ad, cp, hi, hg, rfl, rfl, HOw, HB⟩ := hrel; have HGk : Hid (gk = N - i) := hg; clear hg; by_cases hlt : i < N
    · have hltI : (i : Int) < (N : Int) := by omega
      have HI : Hid (i < N) := hlt; (have HSc : Hid (memTo P (i + 1) = if P i = true then memTo P i ++ [i] else memTo P i) := memTo_succ P i); have HLn : Hid ((memTo P i).length ≤ i) := memTo_len P i; generalize memTo P i = LL at *; (have hlnI : (LL.length : Int) ≤ 40 := by have := HLn.out; have := HN.out; omega); clear hlt hi; go_wp2_with fail; refine (HH.out i HI.out wr).mono ?_; rintro _ w9 ⟨rfl, e9⟩
      replace e9 := e9.symm
      subst e9; by_cases hp : P i = true
      · rw [hp] at HSc ⊢
        obtain ⟨i0, hi0, hz0, hz1, hz2⟩ := infoI9; clear hp
        go_wp2_with (first
          | (at_builtin
             have hsz := HB.out.size; have hlm := HLn.out; have hnm := HN.out; have hil := HI.out; have hown := rowM_up HOw.out ((Below.refl _ wr).alloc (Nat.le_refl _) (.cells #[.int .i64 (i : Nat)] 3 (0, 0))); (refine wpList_append_lies _ rfl _ _ 58 rfl w.heap.size 3 i0 (.int .i64 0) 1 8 Try.underlying58 hi0 hz0 hz1 hz2 rfl (by decide) (.slice ad LL.length cp) LL.length (LL.map encI) rfl hown ⟨wr.heap.size, 0, none⟩ 1 1 [.int .i64 (i : Nat)] rfl rfl ?_ ?_ (by omega) (by unfold maxLen; omega) (by omega) (by simp; omega) _ rfl ?_)
             · intro j u hu
               rw [add_none, Nat.zero_add, blk_cell (blk_new wr _)]; simpa using hu
             · intro u hu
               simp at hu; subst hu; rfl
             intro g3 cp3 w3 hown3 hgrow hat hlt3; have hgrow' : (wr.alloc (.cells #[.int .i64 (i : Nat)] 3 (0, 0))).grownBy w3 (Value.slice ad LL.length cp).ownBlock := hgrow; have hlt' := HOw.out.lt; (have HB3 : Hid (Below w.heap.size w w3) := ((HB.out.alloc hsz _).grown hgrow' (by simp; omega) fun k hk => by have := (hlt' k hk).1; omega)); have HOw3 : Hid (w3.ownsRow w.heap.size 3 1 (.slice (some ⟨g3, 0, none⟩) (LL.length + 1) cp3) (LL.length + 1) (LL.map encI ++ [.int .i64 (i : Nat)])) := hown3
             clear hgrow hgrow' hat hown3 hown hlt' hsz hlt3 hi0 hz0 hz1 hz2 hlm hnm hil)
          | fail)
        (have HSc9 : memTo P (i + 1) = LL ++ [i] := by rw [HSc.out]; rfl); (have hl9 : (memTo P (i + 1)).length = LL.length + 1 := by rw [HSc9]; simp)
        go_roundg (N - (i + 1))
        case measure => have := HGk.out; have := HI.out; omega
        case rel =>
          (refine ⟨i + 1, some ⟨g3, 0, none⟩, cp3, HI.out, rfl, by go_num, by rw [hl9], ?_, HB3⟩); rw [hl9, HSc9, List.map_append]; exact HOw3
      · have hpf : P i = false := by simpa using hp
        rw [hpf] at HSc ⊢; clear hp hpf; go_wp2_with fail; (have HSc9 : memTo P (i + 1) = LL := by rw [HSc.out]; rfl)
        go_roundg (N - (i + 1))
        case measure => have := HGk.out; have := HI.out; omega
        case rel => exact ⟨i + 1, ad, cp, HI.out, rfl, by go_num, by rw [HSc9], by rw [HSc9]; exact HOw, HB⟩
    · have hii : N = i := by omega
      subst hii; (have hge : ¬ (N : Int) < (N : Int) := by omega); clear hlt hi; go_wp2_with fail; go_ret; obtain ⟨c1, c2⟩ := rowM_caps HOw.out; (refine ⟨_, rfl, ⟨ad, cp, rfl, c1, c2, fun hne => ?_⟩, HB.out⟩); obtain ⟨b, rfl, hc⟩ := rowM_cells HOw.out (List.length_pos_iff.2 hne); (refine ⟨b, rfl, fun j m hj => ?_⟩); (have := hc j (encI m) (by rw [List.getElem?_map, hj]; rfl))
      rwa [Nat.zero_add] at this
end Go.Proofs.Ytmahgfgndfcmpag
/- Walks: the shape of a frame. -/
namespace Go.Proofs.Ytmahgfgndfcmpag
open Go.RowKit

/-- Six cells written. -/
def set6 (w : World) (b : Nat) (y0 y1 y2 y3 y4 y5 : Value) : World := (((((w.setCell ⟨b, 0, none⟩ y0).setCell ⟨b, 1, none⟩ y1).setCell ⟨b, 2, none⟩ y2).setCell ⟨b, 3, none⟩ y3).setCell ⟨b, 4, none⟩ y4).setCell ⟨b, 5, none⟩ y5
theorem set6_blk {w : World} {b : Nat} {x0 x1 x2 x3 x4 x5 : Value} {T : TypeId} (h : w.heap[b]? = some (.cells #[x0, x1, x2, x3, x4, x5] T (0, 0))) (y0 y1 y2 y3 y4 y5 : Value) : (set6 w b y0 y1 y2 y3 y4 y5).heap[b]? = some (.cells #[y0, y1, y2, y3, y4, y5] T (0, 0)) := by
  have h0 : (w.setCell ⟨b, 0, none⟩ y0).heap[b]? = some (.cells #[y0, x1, x2, x3, x4, x5] T (0, 0)) := set_cellE h _; have h1 : ((w.setCell ⟨b, 0, none⟩ y0).setCell ⟨b, 1, none⟩ y1).heap[b]? = some (.cells #[y0, y1, x2, x3, x4, x5] T (0, 0)) := set_cellE h0 _; have h2 : (((w.setCell ⟨b, 0, none⟩ y0).setCell ⟨b, 1, none⟩ y1).setCell ⟨b, 2, none⟩ y2).heap[b]? = some (.cells #[y0, y1, y2, x3, x4, x5] T (0, 0)) := set_cellE h1 _; have h3 : ((((w.setCell ⟨b, 0, none⟩ y0).setCell ⟨b, 1, none⟩ y1).setCell ⟨b, 2, none⟩ y2).setCell ⟨b, 3, none⟩ y3).heap[b]? = some (.cells #[y0, y1, y2, y3, x4, x5] T (0, 0)) := set_cellE h2 _; have h4 : (((((w.setCell ⟨b, 0, none⟩ y0).setCell ⟨b, 1, none⟩ y1).setCell ⟨b, 2, none⟩ y2).setCell ⟨b, 3, none⟩ y3).setCell ⟨b, 4, none⟩ y4).heap[b]? = some (.cells #[y0, y1, y2, y3, y4, x5] T (0, 0)) := set_cellE h3 _; exact set_cellE h4 _
theorem set6_below {B : Nat} {a w : World} (h : Below B a w) {b : Nat} (hb : B ≤ b) (y0 y1 y2 y3 y4 y5 : Value) : Below B a (set6 w b y0 y1 y2 y3 y4 y5) := by
  unfold set6; exact (((((h.setCell (p := ⟨b, 0, none⟩) hb _).setCell (p := ⟨b, 1, none⟩) hb _).setCell (p := ⟨b, 2, none⟩) hb _).setCell (p := ⟨b, 3, none⟩) hb _).setCell (p := ⟨b, 4, none⟩) hb _).setCell (p := ⟨b, 5, none⟩) hb _
end Go.Proofs.Ytmahgfgndfcmpag
/- Walks: at which worlds a formula is true, by the yardstick. -/
namespace Go.Proofs.Ytmahgfgndfcmpag
open Go.RowKit Go.Sort

theorem infoBs : ∃ i, Try.prog.info? 32 = some i ∧ i.zero = some (.slice none 0 0) ∧ i.size = 1 ∧ i.bytes = 24 := by
  (obtain ⟨i, hi, h⟩ := Option.map_eq_some_iff.1 (show (Try.prog.info? 32).map (fun i => (i.zero, i.size, i.bytes)) = some (some (.slice none 0 0), 1, 24) by kernel_rfl)); simp only [Prod.mk.injEq] at h; exact ⟨i, hi, h.1, h.2.1, h.2.2⟩
/-- The list as far as it is told. -/
def outC (N i : Nat) (T : Nat → Bool) : Array Value := ((List.range N).map fun q => Value.bool (decide (q < i) && T q)).toArray
theorem outC_size (N i : Nat) (T : Nat → Bool) : (outC N i T).size = N := by simp [outC]
theorem outC_get {N i q : Nat} {T : Nat → Bool} (h : q < N) : (outC N i T)[q]? = some (.bool (decide (q < i) && T q)) := by simp [outC, h]
theorem outC_zero (N : Nat) (T : Nat → Bool) : madeCells #[Value.bool false] N = outC N 0 T := by
  apply Array.ext'; rw [toList_madeCells_one]; simp [outC, List.map_const']
theorem outC_set {N i : Nat} {T : Nat → Bool} : (outC N i T).setIfInBounds i (.bool (T i)) = outC N (i + 1) T := by
  apply Array.ext_getElem?; intro j; by_cases hj : j < N
  · rw [outC_get hj]
    by_cases e : i = j
    · subst e
      (rw [Array.getElem?_setIfInBounds_self_of_lt (by rw [outC_size]; exact hj)])
      simp
    · rw [Array.getElem?_setIfInBounds_ne e, outC_get hj]
      (have : decide (j < i + 1) = decide (j < i) := by rw [decide_eq_decide]; omega); rw [this]
  · rw [Array.getElem?_eq_none (by simp [outC_size]; omega), Array.getElem?_eq_none (by simp [outC_size]; omega)]
theorem outC_keep {N i : Nat} {T : Nat → Bool} (h : T i = false) : outC N i T = outC N (i + 1) T := by
  apply Array.ext_getElem?; intro j; by_cases hj : j < N
  · rw [outC_get hj, outC_get hj]
    by_cases e : i = j
    · subst e; simp [h]
    · have : decide (j < i + 1) = decide (j < i) := by rw [decide_eq_decide]; omega
      rw [this]
  · rw [Array.getElem?_eq_none (by simp [outC_size]; omega), Array.getElem?_eq_none (by simp [outC_size]; omega)]
theorem outC_full {N q : Nat} {T : Nat → Bool} (h : q < N) : (outC N N T)[q]? = some (.bool (T q)) := by rw [outC_get h]; simp [h]
theorem outC_off {N i : Nat} {T : Nat → Bool} : outC N i T = (outC N i T).setIfInBounds i (.bool false) := by
  apply Array.ext_getElem?; intro j; by_cases e : i = j
  · subst e
    by_cases hj : i < N
    · rw [Array.getElem?_setIfInBounds_self_of_lt (by rw [outC_size]; exact hj), outC_get hj]
      simp
    · rw [Array.getElem?_eq_none (by simp [outC_size]; omega), Array.getElem?_eq_none (by simp [outC_size]; omega)]
  · rw [Array.getElem?_setIfInBounds_ne e]
theorem outS_get {N i : Nat} {T : Nat → Bool} {b : Bool} (h : i < N) : ((outC N i T).setIfInBounds i (.bool b))[i]? = some (.bool b) := by
  (rw [Array.getElem?_setIfInBounds_self_of_lt (by rw [outC_size]; exact h)])
theorem outS_set {N i : Nat} {T : Nat → Bool} {b c : Bool} : ((outC N i T).setIfInBounds i (.bool b)).setIfInBounds i (.bool c) = (outC N i T).setIfInBounds i (.bool c) := by
  apply Array.ext_getElem?; intro j; by_cases e : i = j
  · subst e
    by_cases hj : i < N
    · rw [Array.getElem?_setIfInBounds_self_of_lt (by simp [outC_size]; exact hj), outS_get hj]
    · rw [Array.getElem?_eq_none (by simp [outC_size]; omega), Array.getElem?_eq_none (by simp [outC_size]; omega)]
  · rw [Array.getElem?_setIfInBounds_ne e, Array.getElem?_setIfInBounds_ne e, Array.getElem?_setIfInBounds_ne e]
def encB (N b : Nat) : Value := .slice (some ⟨b, 0, none⟩) N N
/-- Kids' lists in memory. -/
def KbS (B : Nat) (w : World) (N : Nat) (gs : List Nat) (Ks : List (Nat → Bool)) : Prop := gs.length = Ks.length ∧ ∀ (j b : Nat) (K : Nat → Bool), gs[j]? = some b → Ks[j]? = some K → B < b ∧ w.heap[b]? = some (.cells (outC N N K) 4 (0, 0))
theorem KbS.move {B : Nat} {w w' : World} {N : Nat} {gs : List Nat} {Ks : List (Nat → Bool)} (h : KbS B w N gs Ks) (hk : ∀ (b : Nat) (cur : Array Value), w.heap[b]? = some (Obj.cells cur 4 (0, 0)) → w'.heap[b]? = w.heap[b]?) : KbS B w' N gs Ks :=
  ⟨h.1, fun j b K h1 h2 => ⟨(h.2 j b K h1 h2).1, (hk b _ (h.2 j b K h1 h2).2).trans (h.2 j b K h1 h2).2⟩⟩
theorem KbS.snoc {B : Nat} {w : World} {N : Nat} {gs : List Nat} {Ks : List (Nat → Bool)} {g : Nat} {K : Nat → Bool} (h : KbS B w N gs Ks) (h1 : B < g) (h2 : w.heap[g]? = some (.cells (outC N N K) 4 (0, 0))) : KbS B w N (gs ++ [g]) (Ks ++ [K]) := by
  (refine ⟨by simp [h.1], fun j b L e1 e2 => ?_⟩)
  rcases Nat.lt_or_ge j gs.length with hj | hj
  · rw [List.getElem?_append_left hj] at e1
    (rw [List.getElem?_append_left (by rw [← h.1]; exact hj)] at e2); exact h.2 j b L e1 e2
  · rw [List.getElem?_append_right hj] at e1
    (rw [List.getElem?_append_right (by rw [← h.1]; exact hj), ← h.1] at e2)
    cases hq : j - gs.length with
    | zero => rw [hq] at e1 e2; simp at e1 e2; subst e1 e2; exact ⟨h1, h2⟩
    | succ q => rw [hq] at e1; simp at e1
theorem mtvs_take (S : Nat → List Nat) (p : Nat → List UInt8 → Bool) : ∀ (ks : List Fm) (i : Nat) (f : Fm), ks[i]? = some f → (mtvs S p ks).take (i + 1) = (mtvs S p ks).take i ++ [mtv S p f]
  | [], i, f, h => by simp at h
  | k :: ks, 0, f, h => by simp at h; subst h; rw [mtvs]; simp
  | k :: ks, i + 1, f, h => by
    (have := mtvs_take S p ks i f (by simpa using h)); rw [mtvs, List.take_succ_cons, List.take_succ_cons, this, List.cons_append]
theorem mtvs_len (S : Nat → List Nat) (p : Nat → List UInt8 → Bool) : ∀ ks : List Fm, (mtvs S p ks).length = ks.length
  | [] => by rw [mtvs]; rfl
  | k :: ks => by rw [mtvs, List.length_cons, List.length_cons, mtvs_len S p ks]
/-- All but one block is as it was. -/
def Far (O : Nat) (R w : World) : Prop := R.heap.size ≤ w.heap.size ∧ ∀ p, p ≠ O → p < R.heap.size → w.heap[p]? = R.heap[p]?
theorem Far.refl (O : Nat) (R : World) : Far O R R := ⟨Nat.le_refl _, fun _ _ _ => rfl⟩
theorem Far.below {O : Nat} {R w w' : World} (h : Far O R w) (hb : Below w.heap.size w w') : Far O R w' := ⟨Nat.le_trans h.1 hb.size, fun p h1 h2 => (hb.block p (Nat.lt_of_lt_of_le h2 h.1)).trans (h.2 p h1 h2)⟩
theorem Far.set {O : Nat} {R w : World} (h : Far O R w) (o : Nat) (v : Value) : Far O R (w.setCell ⟨O, o, none⟩ v) := ⟨by simp only [World.setCell, Array.size_modify]; exact h.1, fun p h1 h2 => (farM h1 v).trans (h.2 p h1 h2)⟩
theorem Far.blk {O p : Nat} {R w : World} {o : Obj} (h : Far O R w) (hp : p ≠ O) (ho : R.heap[p]? = some o) : w.heap[p]? = some o := (h.2 p hp (lt_of_block ho)).trans ho
theorem Far.cell {O : Nat} {R w : World} {a : Addr} {v : Value} (h : Far O R w) (hp : a.block ≠ O) (ho : R.cell? a = some v) : w.cell? a = some v := (cell_of_block (h.2 _ hp (lt_of_cell ho))).trans ho
def AllR (N : Nat) (rel : List (Int × Int)) (tr : List (List (List UInt8))) (m : Nat) : Prop := ∀ (f : Fm) (v u : Value) (w : World), f.size < m → Fine f → MR w ⟨(N : Int), rel, tr⟩ v → Rep w (fun _ => True) f u →
  Calls Try.prog 19 #[v, u] w fun e w' => ∃ g, e = .returned (.slice (some ⟨g, 0, none⟩) N N) ∧ w.heap.size ≤ g ∧ w'.heap[g]? = some (.cells (outC N N (mtv (seeR N (relB rel)) (pT tr) f)) 4 (0, 0)) ∧ Below w.heap.size w w'
def AllF (N : Nat) (rel : List (Int × Int)) (tr : List (List (List UInt8))) (f : Fm) : Prop := ∀ (v u : Value) (w : World), MR w ⟨(N : Int), rel, tr⟩ v → Rep w (fun _ => True) f u →
  Calls Try.prog 19 #[v, u] w fun e w' => ∃ g, e = .returned (.slice (some ⟨g, 0, none⟩) N N) ∧ w.heap.size ≤ g ∧ w'.heap[g]? = some (.cells (outC N N (mtv (seeR N (relB rel)) (pT tr) f)) 4 (0, 0)) ∧ Below w.heap.size w w'
theorem rowA10 (l : List Value) (h0 : l.length = 10) : ∃ x0 x1 x2 x3 x4 x5 x6 x7 x8 x9, l = [x0, x1, x2, x3, x4, x5, x6, x7, x8, x9] := by
  obtain ⟨x0, l1, e0, h1⟩ := cons_lenM h0; obtain ⟨x1, l2, e1, h2⟩ := cons_lenM h1; obtain ⟨x2, l3, e2, h3⟩ := cons_lenM h2; obtain ⟨x3, l4, e3, h4⟩ := cons_lenM h3; obtain ⟨x4, l5, e4, h5⟩ := cons_lenM h4; obtain ⟨x5, l6, e5, h6⟩ := cons_lenM h5; obtain ⟨x6, l7, e6, h7⟩ := cons_lenM h6; obtain ⟨x7, l8, e7, h8⟩ := cons_lenM h7; obtain ⟨x8, l9, e8, h9⟩ := cons_lenM h8; obtain ⟨x9, l10, e9, h10⟩ := cons_lenM h9; have e10 : l10 = [] := List.length_eq_zero_iff.1 h10; subst e10 e9 e8 e7 e6 e5 e4 e3 e2 e1 e0; exact ⟨x0, x1, x2, x3, x4, x5, x6, x7, x8, x9, rfl⟩
theorem rowA11 (l : List Value) (h0 : l.length = 11) : ∃ x0 x1 x2 x3 x4 x5 x6 x7 x8 x9 x10, l = [x0, x1, x2, x3, x4, x5, x6, x7, x8, x9, x10] := by
  obtain ⟨x0, l1, e0, h1⟩ := cons_lenM h0; obtain ⟨x1, l2, e1, h2⟩ := cons_lenM h1; obtain ⟨x2, l3, e2, h3⟩ := cons_lenM h2; obtain ⟨x3, l4, e3, h4⟩ := cons_lenM h3; obtain ⟨x4, l5, e4, h5⟩ := cons_lenM h4; obtain ⟨x5, l6, e5, h6⟩ := cons_lenM h5; obtain ⟨x6, l7, e6, h7⟩ := cons_lenM h6; obtain ⟨x7, l8, e7, h8⟩ := cons_lenM h7; obtain ⟨x8, l9, e8, h9⟩ := cons_lenM h8; obtain ⟨x9, l10, e9, h10⟩ := cons_lenM h9; obtain ⟨x10, l11, e10, h11⟩ := cons_lenM h10; have e11 : l11 = [] := List.length_eq_zero_iff.1 h11; subst e11 e10 e9 e8 e7 e6 e5 e4 e3 e2 e1 e0; exact ⟨x0, x1, x2, x3, x4, x5, x6, x7, x8, x9, x10, rfl⟩
theorem rowA21 (l : List Value) (h0 : l.length = 21) : ∃ x0 x1 x2 x3 x4 x5 x6 x7 x8 x9 x10 x11 x12 x13 x14 x15 x16 x17 x18 x19 x20, l = [x0, x1, x2, x3, x4, x5, x6, x7, x8, x9, x10, x11, x12, x13, x14, x15, x16, x17, x18, x19, x20] := by
  obtain ⟨x0, l1, e0, h1⟩ := cons_lenM h0; obtain ⟨x1, l2, e1, h2⟩ := cons_lenM h1; obtain ⟨x2, l3, e2, h3⟩ := cons_lenM h2; obtain ⟨x3, l4, e3, h4⟩ := cons_lenM h3; obtain ⟨x4, l5, e4, h5⟩ := cons_lenM h4; obtain ⟨x5, l6, e5, h6⟩ := cons_lenM h5; obtain ⟨x6, l7, e6, h7⟩ := cons_lenM h6; obtain ⟨x7, l8, e7, h8⟩ := cons_lenM h7; obtain ⟨x8, l9, e8, h9⟩ := cons_lenM h8; obtain ⟨x9, l10, e9, h10⟩ := cons_lenM h9; obtain ⟨x10, l11, e10, h11⟩ := cons_lenM h10; obtain ⟨x11, l12, e11, h12⟩ := cons_lenM h11; obtain ⟨x12, l13, e12, h13⟩ := cons_lenM h12; obtain ⟨x13, l14, e13, h14⟩ := cons_lenM h13; obtain ⟨x14, l15, e14, h15⟩ := cons_lenM h14; obtain ⟨x15, l16, e15, h16⟩ := cons_lenM h15; obtain ⟨x16, l17, e16, h17⟩ := cons_lenM h16; obtain ⟨x17, l18, e17, h18⟩ := cons_lenM h17; obtain ⟨x18, l19, e18, h19⟩ := cons_lenM h18; obtain ⟨x19, l20, e19, h20⟩ := cons_lenM h19; obtain ⟨x20, l21, e20, h21⟩ := cons_lenM h20; have e21 : l21 = [] := List.length_eq_zero_iff.1 h21; subst e21 e20 e19 e18 e17 e16 e15 e14 e13 e12 e11 e10 e9 e8 e7 e6 e5 e4 e3 e2 e1 e0; exact ⟨x0, x1, x2, x3, x4, x5, x6, x7, x8, x9, x10, x11, x12, x13, x14, x15, x16, x17, x18, x19, x20, rfl⟩
theorem outC_put {w : World} {N i O : Nat} {T : Nat → Bool} {b : Bool} (h : w.heap[O]? = some (.cells (outC N i T) 4 (0, 0))) (e : T i = b) : (w.setCell ⟨O, i, none⟩ (.bool b)).heap[O]? = some (.cells (outC N (i + 1) T) 4 (0, 0)) := by
  subst e; have := set_cellE (j := i) h (.bool (T i)); rw [outC_set] at this; exact this
theorem outC_put2 {w : World} {N i O : Nat} {T : Nat → Bool} {b c : Bool} (h : w.heap[O]? = some (.cells ((outC N i T).setIfInBounds i (.bool b)) 4 (0, 0))) : (w.setCell ⟨O, i, none⟩ (.bool c)).heap[O]? = some (.cells ((outC N i T).setIfInBounds i (.bool c)) 4 (0, 0)) := by
  have := set_cellE (j := i) h (.bool c); rw [outS_set] at this; exact this
end Go.Proofs.Ytmahgfgndfcmpag
/- Walks: at which worlds a formula is true, by the yardstick: kinds 8. -/
namespace Go.Proofs.Ytmahgfgndfcmpag
open Go.RowKit Go.Sort

set_option maxRecDepth 10000 in
set_option maxHeartbeats 16000000 in
theorem allR_D (N : Nat) (hN1 : 0 < N) (hN : N ≤ 40) (rel : List (Int × Int)) (hrl : rel.length ≤ 2000) (hin : InR N rel) (tr : List (List (List UInt8))) (htr : tr.length = N) (m : Nat) (ih : AllR N rel tr m) (k : Int) (n : ByteArray) (ks : List Fm) (hc : k = 8) (hm : (Fm.mk k n ks).size < m + 1) (hfi : Fine (.mk k n ks)) : AllF N rel tr (.mk k n ks) := by
  intro v u w hv hrep; have HCs : Hid (k = 8) := hc; clear hc; have HIn : Hid (InR N rel) := hin; have HN : Hid (N ≤ 40) := hN; have HTr : Hid (tr.length = N) := htr; (have HM : Hid (∀ W, Below w.heap.size w W → MR W ⟨(N : Int), rel, tr⟩ v) := fun W hb => hv.up hb); obtain ⟨ra, rc, ta, tc, rfl, hpl, hsl, hmx⟩ := hv; simp only at hpl hsl hmx HM ⊢; have HPl : Hid (PL w (.slice ra rel.length rc) rel) := hpl; obtain ⟨ta', tc', e2, s1, s2, s3⟩ := hsl; simp only [Value.slice.injEq, true_and] at e2; obtain ⟨rfl, rfl⟩ := e2; (obtain ⟨tb, toff, rfl, hcT⟩ := s3 (fun e => by rw [e] at htr; simp at htr; omega))
  obtain ⟨tv, htv⟩ : ∃ tv : Nat → Value, ∀ q, q < N → w.cell? ⟨tb, toff + q, none⟩ = some (tv q) ∧ SL w (tv q) (tr.getD q []) := by
    (refine ⟨fun q => (w.cell? ⟨tb, toff + q, none⟩).getD undef, fun q hq => ?_⟩); (obtain ⟨u, h1, h2⟩ := hcT q (tr.getD q []) (by rw [List.getD_eq_getElem?_getD, List.getElem?_eq_getElem (by omega)]; rfl)); simp only [h1, Option.getD_some]; exact ⟨trivial, h2⟩
  have HTv : Hid (∀ q, q < N → w.cell? ⟨tb, toff + q, none⟩ = some (tv q) ∧ SL w (tv q) (tr.getD q [])) := htv; (have htcI : (N : Int) ≤ (tc : Int) := by omega); (have hNI : (N : Int) ≤ 40 := by omega); obtain ⟨sl, cap, rfl, hx1, hx2, hx3, hx4⟩ := Rep.def.1 hrep; (have HX : Hid (ks ≠ [] → ∃ b off, sl = some ⟨b, off, none⟩ ∧ True ∧ Reps w (fun _ => True) b off ks) := hx4); have hk2 := hfi.small.2; (have hkI : (ks.length : Int) ≤ 2 := by omega); have HF : Hid (Fine (.mk k n ks)) := hfi; (have HIh : Hid (∀ (i : Nat) (f : Fm), ks[i]? = some f → ∀ v u W, MR W ⟨(N : Int), rel, tr⟩ v → Rep W (fun _ => True) f u → Calls Try.prog 19 #[v, u] W _) := fun i f hi v u W h1 h2 => ih f v u W (by have := sizes_get hi; rw [Fm.size] at hm; omega) (HF.out.kid i f hi) h1 h2); obtain ⟨S, hS⟩ : ∃ S, S = seeR N (relB rel) := ⟨_, rfl⟩; (have HS : Hid (∀ u, S u = seenTo N rel u N) := fun u => by rw [hS]; exact seeR_eq hin u); obtain ⟨p, hp⟩ : ∃ p, p = pT tr := ⟨_, rfl⟩; (have HP : Hid (∀ u s, p u s = decide (s ∈ tr.getD u [])) := fun u s => by rw [hp, pT, List.contains_eq_mem]); rw [← hS, ← hp] at HIh ⊢; obtain ⟨Ks, hKs⟩ : ∃ Ks, Ks = mtvs S p ks := ⟨_, rfl⟩; have HKs : Hid (Ks = mtvs S p ks) := hKs; (have HKl : Hid (Ks.length = ks.length) := by rw [hKs]; exact mtvs_len _ _ _); obtain ⟨T, hT⟩ : ∃ T, T = mtv S p (.mk k n ks) := ⟨_, rfl⟩; (have HT : Hid (T = mval S k (fun u => p u n.data.toList) Ks) := by show _ = _; rw [hT, hKs, mtv]); rw [← hT]; (have HSe : Hid (∀ W, PL W (.slice ra rel.length rc) rel → Calls Try.prog 43 #[.agg #[.int .i64 (N : Nat), .slice ra rel.length rc, .slice (some ⟨tb, toff, none⟩) tr.length tc]] W _) := fun W h => seen_any N hN rel hrl hin ra (some ⟨tb, toff, none⟩) rc tr.length tc W h); (have hmk := fun w => run_make_row' (P := Try.prog) 32 4 (.bool false) 1 Try.underlying32 (by kernel_rfl) rfl .i64 .i64 N (by omega) (by omega) w); obtain ⟨W0, hW0⟩ : ∃ W0, W0 = (w.alloc (.cells #[.int .i64 (N : Nat), .slice ra rel.length rc, .slice (some ⟨tb, toff, none⟩) tr.length tc] 25 (0, 0))).alloc (.cells #[.int .i64 k, .string n, .slice sl ks.length cap] 28 (0, 0)) := ⟨_, rfl⟩; (have HB0 : Hid (Below w.heap.size w W0) := by rw [hW0]; exact below_more (below_more (Below.refl _ w) _) _); (have HM0 : Hid (W0.heap[w.heap.size]? = some (.cells #[.int .i64 (N : Nat), .slice ra rel.length rc, .slice (some ⟨tb, toff, none⟩) tr.length tc] 25 (0, 0))) := by rw [hW0]; exact alloc_keep (blk_new _ _) _); (have HF0 : Hid (W0.heap[w.heap.size + 1]? = some (.cells #[.int .i64 k, .string n, .slice sl ks.length cap] 28 (0, 0))) := by rw [hW0]; exact blk_secE _ _ _); clear hpl hmx s1 s2 s3 hcT htv hin hrl htr hN ih hx4 hfi hrep hS hp hKs hT hx1 hx3 hm hk2
  go_enter Try.func19, Try.ntmps19
  go_wp2_with fail; rw [← hW0]; refine (HSe.out W0 (HPl.out.up HB0.out)).mono ?_; rintro _ w1 ⟨g, rfl, hg0, hsn, hb1⟩; have HSn : Hid (SnR W0.heap.size w1 g N rel) := hsn; have HB1 : Hid (Below w.heap.size w w1) := below_join HB0.out hb1; have HM1 : Hid (w1.heap[w.heap.size]? = some (.cells #[.int .i64 (N : Nat), .slice ra rel.length rc, .slice (some ⟨tb, toff, none⟩) tr.length tc] 25 (0, 0))) := below_keep hb1 HM0.out; have HF1 : Hid (w1.heap[w.heap.size + 1]? = some (.cells #[.int .i64 k, .string n, .slice sl ks.length cap] 28 (0, 0))) := below_keep hb1 HF0.out; clear hg0 hsn hb1 hW0 HSe HM0 HF0 HB0; obtain ⟨OUT, hO⟩ : ∃ OUT, OUT = w1.heap.size := ⟨_, rfl⟩; have HO : Hid (OUT = w1.heap.size) := hO; obtain ⟨k0, k1, k2, -⟩ := blk3 HM1.out; go_wp2_with fail; obtain ⟨W2, hW2⟩ : ∃ W2, W2 = w1.alloc (.cells (madeCells #[Value.bool false] N) 4 (0, 0)) := ⟨_, rfl⟩; (have HW2o : Hid (W2.heap[OUT]? = some (.cells (outC N 0 T) 4 (0, 0))) := by rw [hW2, ← outC_zero, hO]; exact blk_new _ _); (have HW2b : Hid (Below w1.heap.size w1 W2) := by rw [hW2]; exact below_more (Below.refl _ _) _); (have HW2z : Hid (W2.heap.size = OUT + 1) := by show _ = _; rw [hW2, hO]; simp); rw [← hW2, ← hO]; clear hmk k0 k1 k2 hO hW2
  go_loopg [8, 7] ks.length (fun gg cc x wr => ∃ i gs ad cp, i ≤ ks.length ∧ gg = ks.length - i ∧ cc = .int .i64 (i : Nat) ∧ x = .slice ad i cp ∧ Hid (KbS OUT wr N gs (Ks.take i)) ∧ Hid (gs.length = i) ∧ Hid (wr.ownsRow (OUT + 1) 32 1 (.slice ad i cp) i (gs.map (encB N))) ∧ Hid (Below W2.heap.size W2 wr) ∧ Hid (OUT + 1 ≤ wr.heap.size))
  case atStart => exact ⟨0, [], none, 0, by omega, by omega, rfl, rfl, ⟨by simp, fun j b K h => by simp at h⟩, rfl, ⟨rfl, Or.inl ⟨rfl, rfl⟩⟩, Below.refl _ _, by show _ ≤ _; rw [HW2z.out]; omega⟩
  case round =>
    obtain ⟨i, gs, ad, cp, hi, hg, rfl, rfl, HK, HGl, HOw, HB, HSz⟩ := hrel; have HGk : Hid (gk = ks.length - i) := hg; clear hg; have HBa : Hid (Below w1.heap.size w1 wr) := below_join HW2b.out HB.out; have HMr : Hid (wr.heap[w.heap.size]? = some (.cells #[.int .i64 (N : Nat), .slice ra rel.length rc, .slice (some ⟨tb, toff, none⟩) tr.length tc] 25 (0, 0))) := below_keep HBa.out HM1.out; have HFr : Hid (wr.heap[w.heap.size + 1]? = some (.cells #[.int .i64 k, .string n, .slice sl ks.length cap] 28 (0, 0))) := below_keep HBa.out HF1.out; have HBw : Hid (Below w.heap.size w wr) := below_join HB1.out HBa.out; by_cases hlt : i < ks.length
    · obtain ⟨k0, k1, k2, -⟩ := blk3 HFr.out
      obtain ⟨⟨kq, nq, kks⟩, hki⟩ : ∃ f, ks[i]? = some f := ⟨_, List.getElem?_eq_getElem hlt⟩; (have hltI : (i : Int) < (ks.length : Int) := by omega); (have hlc : (i : Int) < (cap : Int) := by omega); (obtain ⟨b, off, rfl, -, hrs⟩ := HX.out (fun e => by rw [e] at hlt; simp at hlt)); obtain ⟨slq, cpq, g0, g1, g2, hrep2⟩ := (hrs.up HBw.out).at i kq nq kks hki; have HG0 : Hid (wr.cell? ⟨b, off + i * 3, none⟩ = some (.int .i64 kq)) := g0; have HG1 : Hid (wr.cell? ⟨b, off + i * 3 + 1, none⟩ = some (.string nq)) := g1; have HG2 : Hid (wr.cell? ⟨b, off + i * 3 + 2, none⟩ = some (.slice slq kks.length cpq)) := g2; (have HR2 : Hid (Rep wr (fun _ => True) (.mk kq nq kks) (.agg #[.int .i64 kq, .string nq, .slice slq kks.length cpq])) := hrep2); have HC := HIh.out i _ hki; obtain ⟨KN, hKN⟩ : ∃ KN, KN = mtv S p (.mk kq nq kks) := ⟨_, rfl⟩; rw [← hKN] at HC; (have HTk : Hid (Ks.take (i + 1) = Ks.take i ++ [KN]) := by rw [HKs.out, hKN]; exact mtvs_take _ _ _ _ _ hki); (have HC : Hid (∀ v u W, MR W ⟨(N : Int), rel, tr⟩ v → Rep W (fun _ => True) (.mk kq nq kks) u → Calls Try.prog 19 #[v, u] W _) := HC); have HI : Hid (i < ks.length) := hlt; (have hi2 : (i : Int) < 2 := by omega); clear hki hrs g0 g1 g2 hrep2 hKN hlt hi; go_wp2_with fail; clear k0 k1 k2; (refine wp_region_wrb (by kernel_rfl) [fun v _ => v = (.slice ad i cp), fun v _ => v = (.agg #[.int .i64 (N : Nat), .slice ra rel.length rc, .slice (some ⟨tb, toff, none⟩) tr.length tc]), fun v _ => v = (.pointer (some ⟨w.heap.size + 1, 2, none⟩)), fun v _ => v = (.slice (some ⟨b, off, none⟩) ks.length cap), fun v _ => v = (.int .i64 (i : Nat)), fun v _ => v = (.pointer (some ⟨b, off + i * 3, none⟩)), fun v _ => v = (.agg #[.int .i64 kq, .string nq, .slice slq kks.length cpq]), fun v w9 => ∃ gn, v = .slice (some ⟨gn, 0, none⟩) N N ∧ OUT < gn ∧ w9.heap[gn]? = some (.cells (outC N N KN) 4 (0, 0)), fun v w9 => ∃ b9 gn, v = .slice (some ⟨b9, 0, none⟩) 1 1 ∧ w9.cell? ⟨b9, 0, none⟩ = some (.slice (some ⟨gn, 0, none⟩) N N) ∧ OUT < gn ∧ w9.heap[gn]? = some (.cells (outC N N KN) 4 (0, 0)), fun _ _ => True] ?_ (by kernel_rfl) (by kernel_rfl) 198 rfl (by kernel_rfl) 10 _ rfl rfl (by kernel_rfl) (fun i => none) 9 _ (by decide) rfl rfl 10 (by kernel_rfl) (fun v w9 => ∃ g3 cp3 gn, v = .slice (some ⟨g3, 0, none⟩) (i + 1) cp3 ∧ w9.ownsRow (OUT + 1) 32 1 (.slice (some ⟨g3, 0, none⟩) (i + 1) cp3) (i + 1) (gs.map (encB N) ++ [encB N gn]) ∧ OUT < gn ∧ w9.heap[gn]? = some (.cells (outC N N KN) 4 (0, 0)) ∧ KbS OUT w9 N gs (Ks.take i) ∧ Below W2.heap.size W2 w9 ∧ OUT + 1 ≤ w9.heap.size) ?_ ?_ ?_ ?_)
      · intro p hp
        simp only [List.mem_cons, List.not_mem_nil, or_false] at hp
        rcases hp with rfl | rfl | rfl | rfl | rfl | rfl | rfl | rfl | rfl | rfl
        · exact fun _ _ _ h _ => h
        · exact fun _ _ _ h _ => h
        · exact fun _ _ _ h _ => h
        · exact fun _ _ _ h _ => h
        · exact fun _ _ _ h _ => h
        · exact fun _ _ _ h _ => h
        · exact fun _ _ _ h _ => h
        · rintro v wa wb ⟨gn, e, h1, h2⟩ hb
          exact ⟨gn, e, h1, below_keep hb h2⟩
        · rintro v wa wb ⟨b9, gn, e, h0, h1, h2⟩ hb
          exact ⟨b9, gn, e, (hb.cell (lt_of_cell h0)).trans h0, h1, below_keep hb h2⟩
        · exact fun _ _ _ h _ => h
      · intro j c wq hj
        cases hj
      · refine ⟨?_, ?_, ?_, ?_, ?_, ?_, ?_, ?_, ?_, ?_, trivial⟩
        · show StepOkB _ _ _ _ _ _ _ _ _
          intro a wx hB hold hdep K hK; have t7 : a.tmps[7]? = some (.slice ad i cp) := hold.2.2 7 rfl; clear hold hdep; go_simp; exact hK.out _ _ rfl (Below.refl _ _)
        · show StepOkB _ _ _ _ _ _ _ _ _
          intro a wx hB hold hdep K hK; have t2 : a.tmps[2]? = some (.pointer (some ⟨w.heap.size, 0, none⟩)) := hold.2.2 2 rfl; obtain ⟨k0, k1, k2, -⟩ := blk3 (below_keep hB HMr.out); clear hold hdep; go_simp; exact hK.out _ _ rfl (Below.refl _ _)
        · show StepOkB _ _ _ _ _ _ _ _ _
          intro a wx hB hold hdep K hK; have t3 : a.tmps[3]? = some (.pointer (some ⟨w.heap.size + 1, 0, none⟩)) := hold.2.2 3 rfl; clear hold hdep; go_simp; exact hK.out _ _ rfl (Below.refl _ _)
        · show StepOkB _ _ _ _ _ _ _ _ _
          intro a wx hB hold hdep K hK; obtain ⟨v26, t26, p26⟩ := hdep 2 rfl _ 26 rfl rfl; have e26 : v26 = (.pointer (some ⟨w.heap.size + 1, 2, none⟩)) := p26; subst e26; obtain ⟨k0, k1, k2, -⟩ := blk3 (below_keep hB HFr.out); clear hold hdep; go_simp; exact hK.out _ _ rfl (Below.refl _ _)
        · show StepOkB _ _ _ _ _ _ _ _ _
          intro a wx hB hold hdep K hK; have t8 : a.tmps[8]? = some (.int .i64 (i : Nat)) := hold.2.2 8 rfl; clear hold hdep; go_simp; exact hK.out _ _ rfl (Below.refl _ _)
        · show StepOkB _ _ _ _ _ _ _ _ _
          intro a wx hB hold hdep K hK; obtain ⟨v27, t27, p27⟩ := hdep 3 rfl _ 27 rfl rfl; have e27 : v27 = (.slice (some ⟨b, off, none⟩) ks.length cap) := p27; subst e27; obtain ⟨v28, t28, p28⟩ := hdep 4 rfl _ 28 rfl rfl; have e28 : v28 = (.int .i64 (i : Nat)) := p28; subst e28; clear hold hdep; go_simp; exact hK.out _ _ rfl (Below.refl _ _)
        · show StepOkB _ _ _ _ _ _ _ _ _
          intro a wx hB hold hdep K hK; obtain ⟨v29, t29, p29⟩ := hdep 5 rfl _ 29 rfl rfl; have e29 : v29 = (.pointer (some ⟨b, off + i * 3, none⟩)) := p29; subst e29; have c0 := (hB.cell (lt_of_cell HG0.out)).trans HG0.out; have c1 := (hB.cell (lt_of_cell HG1.out)).trans HG1.out; have c2 := (hB.cell (lt_of_cell HG2.out)).trans HG2.out; clear hold hdep; go_simp; exact hK.out _ _ rfl (Below.refl _ _)
        · show StepOkB _ _ _ _ _ _ _ _ _
          intro a wx hB hold hdep K hK; obtain ⟨v25, t25, p25⟩ := hdep 1 rfl _ 25 rfl rfl; have e25 : v25 = (.agg #[.int .i64 (N : Nat), .slice ra rel.length rc, .slice (some ⟨tb, toff, none⟩) tr.length tc]) := p25; subst e25; obtain ⟨v30, t30, p30⟩ := hdep 6 rfl _ 30 rfl rfl; have e30 : v30 = (.agg #[.int .i64 kq, .string nq, .slice slq kks.length cpq]) := p30; subst e30; have HW := HC.out (.agg #[.int .i64 (N : Nat), .slice ra rel.length rc, .slice (some ⟨tb, toff, none⟩) tr.length tc]) (.agg #[.int .i64 kq, .string nq, .slice slq kks.length cpq]) wx (HM.out wx (below_join HBw.out hB)) (HR2.out.up hB); have HW : Hid (Calls Try.prog 19 #[(.agg #[.int .i64 (N : Nat), .slice ra rel.length rc, .slice (some ⟨tb, toff, none⟩) tr.length tc]), (.agg #[.int .i64 kq, .string nq, .slice slq kks.length cpq])] wx _) := HW; have hz9 : OUT + 1 ≤ wx.heap.size := Nat.le_trans HSz.out hB.size; have Hz9 : Hid (OUT + 1 ≤ wx.heap.size) := hz9; clear hz9; clear hold hdep; go_simp; refine HW.out.mono ?_; rintro _ w9 ⟨gn, rfl, h1, h2, hb9⟩; have H2 : Hid (w9.heap[gn]? = some (.cells (outC N N KN) 4 (0, 0))) := h2; clear h2; go_simp; (exact hK.out _ _ ⟨gn, rfl, by have := Hz9.out; omega, H2.out⟩ hb9)
        · show StepOkB _ _ _ _ _ _ _ _ _
          intro a wx hB hold hdep K hK; obtain ⟨v31, t31, p31⟩ := hdep 7 rfl _ 31 rfl rfl; (have P31 : Hid ((fun v w9 => ∃ gn, v = .slice (some ⟨gn, 0, none⟩) N N ∧ OUT < gn ∧ w9.heap[gn]? = some (.cells (outC N N KN) 4 (0, 0))) v31 wx) := p31); clear p31; obtain ⟨gn, e31, h1, h2⟩ := P31.out; subst e31; have H2 : Hid (OUT < gn ∧ wx.heap[gn]? = some (.cells (outC N N KN) 4 (0, 0))) := ⟨h1, h2⟩; clear h1 h2 P31; clear hold hdep; go_simp; (exact hK.out _ _ ⟨_, gn, rfl, by simp, H2.out.1, alloc_keep H2.out.2 _⟩ (below_more (Below.refl _ _) _))
        · exact trivial
      · intro a wx hB hold hgot K hK
        (obtain ⟨vA, tvA, pvA⟩ := hgot 0 _ 24 (by decide) (by decide) rfl rfl rfl); have evA : vA = (.slice ad i cp) := pvA; subst evA; (obtain ⟨vB, tvB, pvB⟩ := hgot 8 _ 32 (by decide) (by decide) rfl rfl rfl); obtain ⟨b9, gn, rfl, hb9, hgn1, hgn2⟩ := pvB; obtain ⟨i0, hi0, hz0, hz1, hz2⟩ := infoBs; have hsz : OUT + 1 ≤ wx.heap.size := Nat.le_trans HSz.out hB.size; (refine step_append_lies _ rfl _ _ 89 rfl (OUT + 1) 32 i0 (.slice none 0 0) 1 24 Try.underlying89 hi0 hz0 hz1 hz2 rfl (by decide) (.slice ad i cp) i (gs.map (encB N)) (eval_tmpM tvA) (rowM_up HOw.out hB) ⟨b9, 0, none⟩ 1 1 [encB N gn] (eval_tmpM tvB) rfl ?_ ?_ (by omega) (by unfold maxLen; omega) (by omega) hsz _ rfl ?_)
        · intro j u hu
          cases j with
          | zero => simp at hu; subst hu; rw [add_none]; exact hb9
          | succ j => simp at hu
        · intro u hu
          simp at hu; subst hu; rfl
        intro g3 cp3 w3 hown3 hgrow hat hlt3; have hlt' := HOw.out.lt; have hown' := rowM_up HOw.out hB; refine hK.out _ _ ⟨g3, cp3, gn, rfl, hown3, hgn1, ?_, ?_, ?_, ?_⟩
        · exact (hgrow.block gn (lt_of_block hgn2) fun e => rowM_ne hown' hgn2 (by decide) e.symm).trans hgn2
        · exact (HK.out.move fun b cur h => hB.block b (lt_of_block h)).move fun b cur h => hgrow.block b (lt_of_block h) fun e => rowM_ne hown' h (by decide) e.symm
        · exact ((below_join HB.out hB).grown hgrow (below_join HB.out hB).size fun k hk => by have := (hlt' k hk).1; have := HW2z.out; omega)
        · exact Nat.le_trans hsz hgrow.size
      · intro a wx hold hpx hpu K hK
        obtain ⟨v9, t9, g3, cp3, gn, rfl, h1, h2, h3, h4, h5, h6⟩ := hpx 33 rfl; (have HO1 : Hid (wx.ownsRow (OUT + 1) 32 1 (.slice (some ⟨g3, 0, none⟩) (i + 1) cp3) (i + 1) ((gs ++ [gn]).map (encB N))) := by rw [List.map_append]; exact h1); (have HO2 : Hid (KbS OUT wx N (gs ++ [gn]) (Ks.take (i + 1))) := by rw [HTk.out]; exact h4.snoc h2 h3); have HO3 : Hid (Below W2.heap.size W2 wx) := h5; have HO4 : Hid (OUT + 1 ≤ wx.heap.size) := h6; obtain ⟨tm, df⟩ := a; (obtain ⟨ys, hys, htm, rfl⟩ := frame_mid2 24 10 (by kernel_rfl) (Nat.le_of_ble_eq_true rfl) hold); obtain ⟨x24, x25, x26, x27, x28, x29, x30, x31, x32, x33, rfl⟩ := rowA10 ys hys; simp only [List.take_succ_cons, List.take_zero, List.drop_succ_cons, List.drop_zero, List.cons_append, List.nil_append] at htm; subst htm; obtain rfl : x33 = _ := someInjM t9; clear hys hold hpx hpu t9 h1 h2 h3 h4 h5 h6; go_simp; refine hK.out _ _ ?_; clear hK; go_wp2_with fail
        go_roundg (ks.length - (i + 1))
        case measure => have := HGk.out; have := HI.out; omega
        case rel => exact ⟨i + 1, gs ++ [gn], some ⟨g3, 0, none⟩, cp3, HI.out, rfl, by go_num, rfl, HO2, by show _ = _; simp [HGl.out], HO1, HO3, HO4⟩
    · have hii : ks.length = i := by omega
      subst hii; (have hge : ¬ (ks.length : Int) < (ks.length : Int) := by omega)
      have HKa : Hid (KbS OUT wr N gs Ks) := by
        have := HK.out; (rw [List.take_of_length_le (by rw [HKl.out]; omega)] at this); exact this
      have HFo : Hid (wr.heap[OUT]? = some (.cells (outC N 0 T) 4 (0, 0))) := below_keep HB.out HW2o.out; clear hlt hi HK HX HIh; obtain ⟨R0, hR0⟩ : ∃ R0, R0 = wr := ⟨_, rfl⟩; subst hR0; (have HOk : Hid (w.heap.size ≠ OUT ∧ w.heap.size + 1 ≠ OUT) := by have := lt_of_block HF1.out; have := HO.out; exact ⟨by omega, by omega⟩); obtain ⟨k0, k1, k2, -⟩ := blk3 HFr.out; go_wp2_with fail; clear k0 k1 k2 hge; obtain ⟨kl, hkl⟩ : ∃ kl, kl = ks.length := ⟨_, rfl⟩; have HKL : Hid (kl = ks.length) := hkl; rw [← hkl] at HFr HGl HOw HKl ⊢; clear hkl
      rcases HF.out.forms with ⟨n', e, hn⟩ | e | e | ⟨k', q, hk, e, hg⟩ | ⟨k', q, q', hk, e, hg, hg'⟩
      · cases e
        (exact absurd HCs.out (by decide))
      · cases e
        (exact absurd HCs.out (by decide))
      · cases e
        (exact absurd HCs.out (by decide))
      · cases e
        clear hg
        rcases hk with rfl | rfl | rfl
        · exact absurd HCs.out (by decide)
        · clear HCs
          have hkl : kl = 1 := HKL.out; subst hkl
          obtain ⟨g0, rfl⟩ : ∃ g0, gs = [g0] := by
            match gs, HGl.out with
            | [g0], _ => exact ⟨g0, rfl⟩
          obtain ⟨K0, rfl⟩ : ∃ K0, Ks = [K0] := by
            match Ks, HKl.out with
            | [K0], _ => exact ⟨K0, rfl⟩
          (have HG0 : Hid (g0 ≠ OUT ∧ R0.heap[g0]? = some (.cells (outC N N K0) 4 (0, 0))) := ⟨by have := (HKa.out.2 0 g0 K0 rfl rfl).1; omega, (HKa.out.2 0 g0 K0 rfl rfl).2⟩); (obtain ⟨kb, rfl, hkc⟩ := rowM_cells HOw.out (by omega)); (have hkO : kb ≠ OUT := by have := (HOw.out.lt kb rfl).1; omega); have HKO : Hid (kb ≠ OUT) := hkO; have HKb0 : Hid (R0.cell? ⟨kb, 0, none⟩ = some (.slice (some ⟨g0, 0, none⟩) N N)) := hkc 0 _ rfl; (have hcI : (1 : Int) ≤ (cp : Int) := by have := (rowM_caps HOw.out).1; omega); clear hkc hkO HKa HGl HKl HOw HKs; (have HTi : Hid (∀ u, T u = (S u).all K0) := fun u => by rw [HT.out]; rfl); clear HT
          go_loopg [9] N (fun gg cc wr => ∃ i, i ≤ N ∧ gg = N - i ∧ cc = .int .i64 (i : Nat) ∧ Hid (wr.heap[OUT]? = some (.cells (outC N i T) 4 (0, 0))) ∧ Hid (Below w1.heap.size w1 wr) ∧ Hid (Far OUT R0 wr))
          case atStart => exact ⟨0, by omega, by omega, rfl, HFo, HBa, Far.refl _ _⟩
          case round =>
            obtain ⟨i, hi, hg, rfl, HA, HB, HFa⟩ := hrel; have HGk : Hid (gk = N - i) := hg; clear hg; obtain ⟨m0, m1, m2, -⟩ := blk3 (HFa.out.blk HOk.out.1 HMr.out); obtain ⟨f0, f1, f2, -⟩ := blk3 (HFa.out.blk HOk.out.2 HFr.out); by_cases hlt : i < N
            · have hltI : (i : Int) < (N : Int) := by omega
              have HI : Hid (i < N) := hlt; have e0 := blk_cell HA.out i; rw [outC_get hlt] at e0; have e1 := blk_fz HA.out i; clear hlt hi; obtain ⟨sa, sc, s0, s1, s2, s3⟩ := HSn.out.row HI.out; have hsl := seenTo_len N rel i N; obtain ⟨SX, hSX⟩ : ∃ SX, SX = seenTo N rel i N := ⟨_, rfl⟩; rw [← hSX] at s0 s1 s3 hsl; (have HTe : Hid (T i = SX.all K0) := by show _ = _; rw [HTi.out, HS.out, hSX]); (have HSm : Hid (∀ z ∈ SX, z < N) := fun z hz => by rw [hSX] at hz; exact ((seenTo_mem HIn.out).1 hz).1); have HC0 : Hid (w1.cell? ⟨g, i, none⟩ = some (.slice sa SX.length sc)) := s0; have HC3 : Hid (0 < SX.length → ∃ b, sa = some ⟨b, 0, none⟩ ∧ ∀ (j k : Nat), SX[j]? = some k → w1.cell? ⟨b, j, none⟩ = some (.int .i64 (k : Nat))) := s3; (have hscI : (SX.length : Int) ≤ (sc : Int) := by omega); (have hslI : (SX.length : Int) ≤ 40 := by have := HN.out; omega); clear s0 s1 s2 s3 hsl hSX; go_wp2_with fail; clear e0 e1 m0 m1 m2 f0 f1 f2
              go_loopg [10] SX.length (fun gg cc wy => ∃ q, q ≤ SX.length ∧ gg = SX.length - q ∧ cc = .int .i64 (q : Nat) ∧ Hid (wy.heap[OUT]? = some (.cells ((outC N i T).setIfInBounds i (.bool ((SX.take q).all K0))) 4 (0, 0))) ∧ Hid (Below w1.heap.size w1 wy) ∧ Hid (Far OUT R0 wy))
              case atStart => exact ⟨0, by omega, by omega, rfl, set_cellE HA.out _, HB.out.setCell (p := ⟨OUT, i, none⟩) (by have := HO.out; simp; omega) _, HFa.out.set _ _⟩
              case round =>
                obtain ⟨q, hq, hg, rfl, HA2, HB2, HFa2⟩ := hrel; have HGq : Hid (gk = SX.length - q) := hg; clear hg; have d1 := (HB2.out.cell (lt_of_cell HC0.out)).trans HC0.out; by_cases hlt : q < SX.length
                · obtain ⟨nv, hv⟩ : ∃ v, SX[q]? = some v := ⟨_, List.getElem?_eq_getElem hlt⟩
                  (obtain ⟨bs, rfl, hcs⟩ := HC3.out (by omega)); have HD2 : Hid (wr.cell? ⟨bs, q, none⟩ = some (.int .i64 (nv : Nat))) := (HB2.out.cell (lt_of_cell (hcs q nv hv))).trans (hcs q nv hv); have hvN : nv < N := HSm.out nv (List.mem_of_getElem? hv); (have hvI : (nv : Int) < (N : Int) := by omega); (have hqI : (q : Int) < (SX.length : Int) := by omega); (have hqc : (q : Int) < (sc : Int) := by omega); have HQ : Hid (q < SX.length) := hlt; have HD1 : Hid (wr.cell? ⟨g, i, none⟩ = some (.slice (some ⟨bs, 0, none⟩) SX.length sc)) := d1; have HD3 : Hid (wr.cell? ⟨kb, 0, none⟩ = some (.slice (some ⟨g0, 0, none⟩) N N)) := HFa2.out.cell (a := ⟨kb, 0, none⟩) HKO.out HKb0.out
                  have HD4 : Hid (wr.cell? ⟨g0, nv, none⟩ = some (.bool (K0 nv))) := by
                    have := blk_cell (HFa2.out.blk HG0.out.1 HG0.out.2) nv; rw [outC_full hvN] at this; exact this
                  (have HTk : Hid ((SX.take (q + 1)).all K0 = ((SX.take q).all K0 && K0 nv)) := by show _ = _; rw [List.take_add_one, hv]; simp); obtain ⟨x, hx⟩ : ∃ x, x = (SX.take q).all K0 := ⟨_, rfl⟩; rw [← hx] at HA2 HTk; generalize K0 nv = y at HD4 HTk; clear hlt hq hv hcs hvN hx; go_wp2_with fail; clear d1
                  cases x with
                  | true =>
                    (refine wp_region_last (by kernel_rfl) [fun v _ => v = (.slice (some ⟨OUT, 0, none⟩) N N), fun v _ => v = (.int .i64 (i : Nat)), fun v _ => v = (.slice (some ⟨OUT, 0, none⟩) N N), fun v _ => v = (.int .i64 (i : Nat)), fun v _ => v = (.pointer (some ⟨OUT, i, none⟩)), fun v _ => v = (.bool true), fun v _ => v = (.bool true), fun v _ => v = (.slice (some ⟨kb, 0, none⟩) 1 cp), fun v _ => v = (.pointer (some ⟨kb, 0, none⟩)), fun v _ => v = (.slice (some ⟨g0, 0, none⟩) N N), fun v _ => v = (.slice (some ⟨g, 0, none⟩) N N), fun v _ => v = (.int .i64 (i : Nat)), fun v _ => v = (.pointer (some ⟨g, i, none⟩)), fun v _ => v = (.slice (some ⟨bs, 0, none⟩) SX.length sc), fun v _ => v = (.int .i64 (q : Nat)), fun v _ => v = (.pointer (some ⟨bs, q, none⟩)), fun v _ => v = (.int .i64 (nv : Nat)), fun v _ => v = (.pointer (some ⟨g0, nv, none⟩)), fun v _ => v = (.bool y), fun v _ => v = (.bool y), fun v _ => v = (.pointer (some ⟨OUT, i, none⟩))] ?_ (by kernel_rfl) (by kernel_rfl) 198 rfl (by kernel_rfl) 21 _ rfl rfl (by kernel_rfl) ?_ ?_)
                    · intro p hp
                      simp only [List.mem_cons, List.not_mem_nil, or_false] at hp
                      rcases hp with rfl | rfl | rfl | rfl | rfl | rfl | rfl | rfl | rfl | rfl | rfl | rfl | rfl | rfl | rfl | rfl | rfl | rfl | rfl | rfl | rfl
                      · exact fun _ _ _ h _ => h
                      · exact fun _ _ _ h _ => h
                      · exact fun _ _ _ h _ => h
                      · exact fun _ _ _ h _ => h
                      · exact fun _ _ _ h _ => h
                      · exact fun _ _ _ h _ => h
                      · exact fun _ _ _ h _ => h
                      · exact fun _ _ _ h _ => h
                      · exact fun _ _ _ h _ => h
                      · exact fun _ _ _ h _ => h
                      · exact fun _ _ _ h _ => h
                      · exact fun _ _ _ h _ => h
                      · exact fun _ _ _ h _ => h
                      · exact fun _ _ _ h _ => h
                      · exact fun _ _ _ h _ => h
                      · exact fun _ _ _ h _ => h
                      · exact fun _ _ _ h _ => h
                      · exact fun _ _ _ h _ => h
                      · exact fun _ _ _ h _ => h
                      · exact fun _ _ _ h _ => h
                      · exact fun _ _ _ h _ => h
                    · refine ⟨?_, ?_, ?_, ?_, ?_, ?_, ?_, ?_, ?_, ?_, ?_, ?_, ?_, ?_, ?_, ?_, ?_, ?_, ?_, ?_, ?_, trivial⟩
                      · intro a wx hB hold hdep K hK
                        have t6 : a.tmps[6]? = some (.slice (some ⟨OUT, 0, none⟩) N N) := hold.2.2 6 rfl; clear hold hdep; go_simp; exact hK.out _ _ rfl (Below.refl _ _)
                      · intro a wx hB hold hdep K hK
                        have t9 : a.tmps[9]? = some (.int .i64 (i : Nat)) := hold.2.2 9 rfl; clear hold hdep; go_simp; exact hK.out _ _ rfl (Below.refl _ _)
                      · intro a wx hB hold hdep K hK
                        have t6 : a.tmps[6]? = some (.slice (some ⟨OUT, 0, none⟩) N N) := hold.2.2 6 rfl; clear hold hdep; go_simp; exact hK.out _ _ rfl (Below.refl _ _)
                      · intro a wx hB hold hdep K hK
                        have t9 : a.tmps[9]? = some (.int .i64 (i : Nat)) := hold.2.2 9 rfl; clear hold hdep; go_simp; exact hK.out _ _ rfl (Below.refl _ _)
                      · intro a wx hB hold hdep K hK
                        obtain ⟨v146, t146, p146⟩ := hdep 2 rfl _ 146 rfl rfl; have e146 : v146 = (.slice (some ⟨OUT, 0, none⟩) N N) := p146; subst e146; obtain ⟨v147, t147, p147⟩ := hdep 3 rfl _ 147 rfl rfl; have e147 : v147 = (.int .i64 (i : Nat)) := p147; subst e147; clear hold hdep; go_simp; exact hK.out _ _ rfl (Below.refl _ _)
                      · intro a wx hB hold hdep K hK
                        obtain ⟨v148, t148, p148⟩ := hdep 4 rfl _ 148 rfl rfl; have e148 : v148 = (.pointer (some ⟨OUT, i, none⟩)) := p148; subst e148; have c9 := blk_cell (below_keep hB HA2.out) i; rw [outS_get HI.out] at c9; clear hold hdep; go_simp; exact hK.out _ _ rfl (Below.refl _ _)
                      · intro a wx hB hold hdep K hK
                        obtain ⟨v149, t149, p149⟩ := hdep 5 rfl _ 149 rfl rfl; have e149 : v149 = (.bool true) := p149; subst e149; clear hold hdep; go_simp; exact hK.out _ _ rfl (Below.refl _ _)
                      · intro a wx hB hold hdep K hK
                        obtain ⟨v150, t150, p150⟩ := hdep 6 rfl _ 150 rfl rfl; have e150 : v150 = (.bool true) := p150; subst e150; have t7 : a.tmps[7]? = some (.slice (some ⟨kb, 0, none⟩) 1 cp) := hold.2.2 7 rfl; clear hold hdep; go_simp; exact hK.out _ _ rfl (Below.refl _ _)
                      · intro a wx hB hold hdep K hK
                        obtain ⟨v150, t150, p150⟩ := hdep 6 rfl _ 150 rfl rfl; have e150 : v150 = (.bool true) := p150; subst e150; obtain ⟨v151, t151, p151⟩ := hdep 7 rfl _ 151 rfl rfl; have e151 : v151 = (.slice (some ⟨kb, 0, none⟩) 1 cp) := p151; subst e151; clear hold hdep; go_simp; exact hK.out _ _ rfl (Below.refl _ _)
                      · intro a wx hB hold hdep K hK
                        obtain ⟨v150, t150, p150⟩ := hdep 6 rfl _ 150 rfl rfl; have e150 : v150 = (.bool true) := p150; subst e150; obtain ⟨v152, t152, p152⟩ := hdep 8 rfl _ 152 rfl rfl; have e152 : v152 = (.pointer (some ⟨kb, 0, none⟩)) := p152; subst e152; have c9 := (hB.cell (lt_of_cell HD3.out)).trans HD3.out; clear hold hdep; go_simp; exact hK.out _ _ rfl (Below.refl _ _)
                      · intro a wx hB hold hdep K hK
                        obtain ⟨v150, t150, p150⟩ := hdep 6 rfl _ 150 rfl rfl; have e150 : v150 = (.bool true) := p150; subst e150; have t5 : a.tmps[5]? = some (.slice (some ⟨g, 0, none⟩) N N) := hold.2.2 5 rfl; clear hold hdep; go_simp; exact hK.out _ _ rfl (Below.refl _ _)
                      · intro a wx hB hold hdep K hK
                        obtain ⟨v150, t150, p150⟩ := hdep 6 rfl _ 150 rfl rfl; have e150 : v150 = (.bool true) := p150; subst e150; have t9 : a.tmps[9]? = some (.int .i64 (i : Nat)) := hold.2.2 9 rfl; clear hold hdep; go_simp; exact hK.out _ _ rfl (Below.refl _ _)
                      · intro a wx hB hold hdep K hK
                        obtain ⟨v150, t150, p150⟩ := hdep 6 rfl _ 150 rfl rfl; have e150 : v150 = (.bool true) := p150; subst e150; obtain ⟨v154, t154, p154⟩ := hdep 10 rfl _ 154 rfl rfl; have e154 : v154 = (.slice (some ⟨g, 0, none⟩) N N) := p154; subst e154; obtain ⟨v155, t155, p155⟩ := hdep 11 rfl _ 155 rfl rfl; have e155 : v155 = (.int .i64 (i : Nat)) := p155; subst e155; clear hold hdep; go_simp; exact hK.out _ _ rfl (Below.refl _ _)
                      · intro a wx hB hold hdep K hK
                        obtain ⟨v150, t150, p150⟩ := hdep 6 rfl _ 150 rfl rfl; have e150 : v150 = (.bool true) := p150; subst e150; obtain ⟨v156, t156, p156⟩ := hdep 12 rfl _ 156 rfl rfl; have e156 : v156 = (.pointer (some ⟨g, i, none⟩)) := p156; subst e156; have c9 := (hB.cell (lt_of_cell HD1.out)).trans HD1.out; clear hold hdep; go_simp; exact hK.out _ _ rfl (Below.refl _ _)
                      · intro a wx hB hold hdep K hK
                        obtain ⟨v150, t150, p150⟩ := hdep 6 rfl _ 150 rfl rfl; have e150 : v150 = (.bool true) := p150; subst e150; have t10 : a.tmps[10]? = some (.int .i64 (q : Nat)) := hold.2.2 10 rfl; clear hold hdep; go_simp; exact hK.out _ _ rfl (Below.refl _ _)
                      · intro a wx hB hold hdep K hK
                        obtain ⟨v150, t150, p150⟩ := hdep 6 rfl _ 150 rfl rfl; have e150 : v150 = (.bool true) := p150; subst e150; obtain ⟨v157, t157, p157⟩ := hdep 13 rfl _ 157 rfl rfl; have e157 : v157 = (.slice (some ⟨bs, 0, none⟩) SX.length sc) := p157; subst e157; obtain ⟨v158, t158, p158⟩ := hdep 14 rfl _ 158 rfl rfl; have e158 : v158 = (.int .i64 (q : Nat)) := p158; subst e158; clear hold hdep; go_simp; exact hK.out _ _ rfl (Below.refl _ _)
                      · intro a wx hB hold hdep K hK
                        obtain ⟨v150, t150, p150⟩ := hdep 6 rfl _ 150 rfl rfl; have e150 : v150 = (.bool true) := p150; subst e150; obtain ⟨v159, t159, p159⟩ := hdep 15 rfl _ 159 rfl rfl; have e159 : v159 = (.pointer (some ⟨bs, q, none⟩)) := p159; subst e159; have c9 := (hB.cell (lt_of_cell HD2.out)).trans HD2.out; clear hold hdep; go_simp; exact hK.out _ _ rfl (Below.refl _ _)
                      · intro a wx hB hold hdep K hK
                        obtain ⟨v150, t150, p150⟩ := hdep 6 rfl _ 150 rfl rfl; have e150 : v150 = (.bool true) := p150; subst e150; obtain ⟨v153, t153, p153⟩ := hdep 9 rfl _ 153 rfl rfl; have e153 : v153 = (.slice (some ⟨g0, 0, none⟩) N N) := p153; subst e153; obtain ⟨v160, t160, p160⟩ := hdep 16 rfl _ 160 rfl rfl; have e160 : v160 = (.int .i64 (nv : Nat)) := p160; subst e160; clear hold hdep; go_simp; exact hK.out _ _ rfl (Below.refl _ _)
                      · intro a wx hB hold hdep K hK
                        obtain ⟨v150, t150, p150⟩ := hdep 6 rfl _ 150 rfl rfl; have e150 : v150 = (.bool true) := p150; subst e150; obtain ⟨v161, t161, p161⟩ := hdep 17 rfl _ 161 rfl rfl; have e161 : v161 = (.pointer (some ⟨g0, nv, none⟩)) := p161; subst e161; have c9 := (hB.cell (lt_of_cell HD4.out)).trans HD4.out; clear hold hdep; go_simp; exact hK.out _ _ rfl (Below.refl _ _)
                      · intro a wx hB hold hdep K hK
                        obtain ⟨v150, t150, p150⟩ := hdep 6 rfl _ 150 rfl rfl; have e150 : v150 = (.bool true) := p150; subst e150; obtain ⟨v162, t162, p162⟩ := hdep 18 rfl _ 162 rfl rfl; have e162 : v162 = (.bool y) := p162; subst e162; clear hold hdep; go_simp; exact hK.out _ _ rfl (Below.refl _ _)
                      · intro a wx hB hold hdep K hK
                        obtain ⟨v144, t144, p144⟩ := hdep 0 rfl _ 144 rfl rfl; have e144 : v144 = (.slice (some ⟨OUT, 0, none⟩) N N) := p144; subst e144; obtain ⟨v145, t145, p145⟩ := hdep 1 rfl _ 145 rfl rfl; have e145 : v145 = (.int .i64 (i : Nat)) := p145; subst e145; clear hold hdep; go_simp; exact hK.out _ _ rfl (Below.refl _ _)
                    · intro a wx hB hold hgot K hK
                      (obtain ⟨vS, tvS, pvS⟩ := hgot 19 _ 163 (by omega) rfl rfl); have evS : vS = (.bool y) := pvS; subst evS; (obtain ⟨vP, tvP, pvP⟩ := hgot 20 _ 164 (by omega) rfl rfl); have evP : vP = (.pointer (some ⟨OUT, i, none⟩)) := pvP; subst evP; have a0 := blk_cell (below_keep hB HA2.out) i; rw [outS_get HI.out] at a0; have a1 := blk_fz (below_keep hB HA2.out) i; obtain ⟨tm, df⟩ := a; (obtain ⟨ys, hys, htm, rfl⟩ := frame_mid2 144 21 (by kernel_rfl) (Nat.le_of_ble_eq_true rfl) hold); obtain ⟨x144, x145, x146, x147, x148, x149, x150, x151, x152, x153, x154, x155, x156, x157, x158, x159, x160, x161, x162, x163, x164, rfl⟩ := rowA21 ys hys; simp only [List.take_succ_cons, List.take_zero, List.drop_succ_cons, List.drop_zero, List.cons_append, List.nil_append] at htm; subst htm; obtain rfl : x163 = _ := someInjM tvS; obtain rfl : x164 = _ := someInjM tvP; clear hys hold hgot tvS tvP; go_simp; refine hK.out _ _ ?_; clear hK a0 a1; obtain ⟨Y, hY⟩ : ∃ Y, Y = wx.setCell ⟨OUT, i, none⟩ (.bool y) := ⟨_, rfl⟩
                      have HY1 : Hid (Y.heap[OUT]? = some (.cells ((outC N i T).setIfInBounds i (.bool ((SX.take (q + 1)).all K0))) 4 (0, 0))) := by
                        (rw [hY, show (SX.take (q + 1)).all K0 = y from HTk.out.trans (by simp)]); exact outC_put2 (below_keep hB HA2.out)
                      (have HY2 : Hid (Below w1.heap.size w1 Y) := by rw [hY]; exact (below_join HB2.out hB).setCell (p := ⟨OUT, i, none⟩) (by have := HO.out; simp; omega) _); (have HY3 : Hid (Far OUT R0 Y) := by rw [hY]; exact (HFa2.out.below hB).set _ _); rw [← hY]; clear hY; go_wp2_with fail
                      go_roundg (SX.length - (q + 1))
                      case measure => have := HGq.out; have := HQ.out; omega
                      case rel => exact ⟨q + 1, HQ.out, rfl, by go_num, HY1, HY2, HY3⟩
                  | false =>
                    (refine wp_region_last (by kernel_rfl) [fun v _ => v = (.slice (some ⟨OUT, 0, none⟩) N N), fun v _ => v = (.int .i64 (i : Nat)), fun v _ => v = (.slice (some ⟨OUT, 0, none⟩) N N), fun v _ => v = (.int .i64 (i : Nat)), fun v _ => v = (.pointer (some ⟨OUT, i, none⟩)), fun v _ => v = (.bool false), fun v _ => v = (.bool false), fun _ _ => True, fun _ _ => True, fun _ _ => True, fun _ _ => True, fun _ _ => True, fun _ _ => True, fun _ _ => True, fun _ _ => True, fun _ _ => True, fun _ _ => True, fun _ _ => True, fun _ _ => True, fun v _ => v = (.bool false), fun v _ => v = (.pointer (some ⟨OUT, i, none⟩))] ?_ (by kernel_rfl) (by kernel_rfl) 198 rfl (by kernel_rfl) 21 _ rfl rfl (by kernel_rfl) ?_ ?_)
                    · intro p hp
                      simp only [List.mem_cons, List.not_mem_nil, or_false] at hp
                      rcases hp with rfl | rfl | rfl | rfl | rfl | rfl | rfl | rfl | rfl | rfl | rfl | rfl | rfl | rfl | rfl | rfl | rfl | rfl | rfl | rfl | rfl
                      · exact fun _ _ _ h _ => h
                      · exact fun _ _ _ h _ => h
                      · exact fun _ _ _ h _ => h
                      · exact fun _ _ _ h _ => h
                      · exact fun _ _ _ h _ => h
                      · exact fun _ _ _ h _ => h
                      · exact fun _ _ _ h _ => h
                      · exact fun _ _ _ h _ => h
                      · exact fun _ _ _ h _ => h
                      · exact fun _ _ _ h _ => h
                      · exact fun _ _ _ h _ => h
                      · exact fun _ _ _ h _ => h
                      · exact fun _ _ _ h _ => h
                      · exact fun _ _ _ h _ => h
                      · exact fun _ _ _ h _ => h
                      · exact fun _ _ _ h _ => h
                      · exact fun _ _ _ h _ => h
                      · exact fun _ _ _ h _ => h
                      · exact fun _ _ _ h _ => h
                      · exact fun _ _ _ h _ => h
                      · exact fun _ _ _ h _ => h
                    · refine ⟨?_, ?_, ?_, ?_, ?_, ?_, ?_, ?_, ?_, ?_, ?_, ?_, ?_, ?_, ?_, ?_, ?_, ?_, ?_, ?_, ?_, trivial⟩
                      · intro a wx hB hold hdep K hK
                        have t6 : a.tmps[6]? = some (.slice (some ⟨OUT, 0, none⟩) N N) := hold.2.2 6 rfl; clear hold hdep; go_simp; exact hK.out _ _ rfl (Below.refl _ _)
                      · intro a wx hB hold hdep K hK
                        have t9 : a.tmps[9]? = some (.int .i64 (i : Nat)) := hold.2.2 9 rfl; clear hold hdep; go_simp; exact hK.out _ _ rfl (Below.refl _ _)
                      · intro a wx hB hold hdep K hK
                        have t6 : a.tmps[6]? = some (.slice (some ⟨OUT, 0, none⟩) N N) := hold.2.2 6 rfl; clear hold hdep; go_simp; exact hK.out _ _ rfl (Below.refl _ _)
                      · intro a wx hB hold hdep K hK
                        have t9 : a.tmps[9]? = some (.int .i64 (i : Nat)) := hold.2.2 9 rfl; clear hold hdep; go_simp; exact hK.out _ _ rfl (Below.refl _ _)
                      · intro a wx hB hold hdep K hK
                        obtain ⟨v146, t146, p146⟩ := hdep 2 rfl _ 146 rfl rfl; have e146 : v146 = (.slice (some ⟨OUT, 0, none⟩) N N) := p146; subst e146; obtain ⟨v147, t147, p147⟩ := hdep 3 rfl _ 147 rfl rfl; have e147 : v147 = (.int .i64 (i : Nat)) := p147; subst e147; clear hold hdep; go_simp; exact hK.out _ _ rfl (Below.refl _ _)
                      · intro a wx hB hold hdep K hK
                        obtain ⟨v148, t148, p148⟩ := hdep 4 rfl _ 148 rfl rfl; have e148 : v148 = (.pointer (some ⟨OUT, i, none⟩)) := p148; subst e148; have c9 := blk_cell (below_keep hB HA2.out) i; rw [outS_get HI.out] at c9; clear hold hdep; go_simp; exact hK.out _ _ rfl (Below.refl _ _)
                      · intro a wx hB hold hdep K hK
                        obtain ⟨v149, t149, p149⟩ := hdep 5 rfl _ 149 rfl rfl; have e149 : v149 = (.bool false) := p149; subst e149; clear hold hdep; go_simp; exact hK.out _ _ rfl (Below.refl _ _)
                      · intro a wx hB hold hdep K hK
                        obtain ⟨v150, t150, p150⟩ := hdep 6 rfl _ 150 rfl rfl; have e150 : v150 = (.bool false) := p150; subst e150; clear hold hdep; go_simp; exact hK.out _ _ trivial (Below.refl _ _)
                      · intro a wx hB hold hdep K hK
                        obtain ⟨v150, t150, p150⟩ := hdep 6 rfl _ 150 rfl rfl; have e150 : v150 = (.bool false) := p150; subst e150; clear hold hdep; go_simp; exact hK.out _ _ trivial (Below.refl _ _)
                      · intro a wx hB hold hdep K hK
                        obtain ⟨v150, t150, p150⟩ := hdep 6 rfl _ 150 rfl rfl; have e150 : v150 = (.bool false) := p150; subst e150; clear hold hdep; go_simp; exact hK.out _ _ trivial (Below.refl _ _)
                      · intro a wx hB hold hdep K hK
                        obtain ⟨v150, t150, p150⟩ := hdep 6 rfl _ 150 rfl rfl; have e150 : v150 = (.bool false) := p150; subst e150; clear hold hdep; go_simp; exact hK.out _ _ trivial (Below.refl _ _)
                      · intro a wx hB hold hdep K hK
                        obtain ⟨v150, t150, p150⟩ := hdep 6 rfl _ 150 rfl rfl; have e150 : v150 = (.bool false) := p150; subst e150; clear hold hdep; go_simp; exact hK.out _ _ trivial (Below.refl _ _)
                      · intro a wx hB hold hdep K hK
                        obtain ⟨v150, t150, p150⟩ := hdep 6 rfl _ 150 rfl rfl; have e150 : v150 = (.bool false) := p150; subst e150; clear hold hdep; go_simp; exact hK.out _ _ trivial (Below.refl _ _)
                      · intro a wx hB hold hdep K hK
                        obtain ⟨v150, t150, p150⟩ := hdep 6 rfl _ 150 rfl rfl; have e150 : v150 = (.bool false) := p150; subst e150; clear hold hdep; go_simp; exact hK.out _ _ trivial (Below.refl _ _)
                      · intro a wx hB hold hdep K hK
                        obtain ⟨v150, t150, p150⟩ := hdep 6 rfl _ 150 rfl rfl; have e150 : v150 = (.bool false) := p150; subst e150; clear hold hdep; go_simp; exact hK.out _ _ trivial (Below.refl _ _)
                      · intro a wx hB hold hdep K hK
                        obtain ⟨v150, t150, p150⟩ := hdep 6 rfl _ 150 rfl rfl; have e150 : v150 = (.bool false) := p150; subst e150; clear hold hdep; go_simp; exact hK.out _ _ trivial (Below.refl _ _)
                      · intro a wx hB hold hdep K hK
                        obtain ⟨v150, t150, p150⟩ := hdep 6 rfl _ 150 rfl rfl; have e150 : v150 = (.bool false) := p150; subst e150; clear hold hdep; go_simp; exact hK.out _ _ trivial (Below.refl _ _)
                      · intro a wx hB hold hdep K hK
                        obtain ⟨v150, t150, p150⟩ := hdep 6 rfl _ 150 rfl rfl; have e150 : v150 = (.bool false) := p150; subst e150; clear hold hdep; go_simp; exact hK.out _ _ trivial (Below.refl _ _)
                      · intro a wx hB hold hdep K hK
                        obtain ⟨v150, t150, p150⟩ := hdep 6 rfl _ 150 rfl rfl; have e150 : v150 = (.bool false) := p150; subst e150; clear hold hdep; go_simp; exact hK.out _ _ trivial (Below.refl _ _)
                      · intro a wx hB hold hdep K hK
                        obtain ⟨v150, t150, p150⟩ := hdep 6 rfl _ 150 rfl rfl; have e150 : v150 = (.bool false) := p150; subst e150; obtain ⟨v162, t162, p162⟩ := hdep 18 rfl _ 162 rfl rfl; (have P162 : Hid ((fun _ _ => True) v162 wx) := p162); clear p162; clear hold hdep; go_simp; exact hK.out _ _ rfl (Below.refl _ _)
                      · intro a wx hB hold hdep K hK
                        obtain ⟨v144, t144, p144⟩ := hdep 0 rfl _ 144 rfl rfl; have e144 : v144 = (.slice (some ⟨OUT, 0, none⟩) N N) := p144; subst e144; obtain ⟨v145, t145, p145⟩ := hdep 1 rfl _ 145 rfl rfl; have e145 : v145 = (.int .i64 (i : Nat)) := p145; subst e145; clear hold hdep; go_simp; exact hK.out _ _ rfl (Below.refl _ _)
                    · intro a wx hB hold hgot K hK
                      (obtain ⟨vS, tvS, pvS⟩ := hgot 19 _ 163 (by omega) rfl rfl); have evS : vS = (.bool false) := pvS; subst evS; (obtain ⟨vP, tvP, pvP⟩ := hgot 20 _ 164 (by omega) rfl rfl); have evP : vP = (.pointer (some ⟨OUT, i, none⟩)) := pvP; subst evP; have a0 := blk_cell (below_keep hB HA2.out) i; rw [outS_get HI.out] at a0; have a1 := blk_fz (below_keep hB HA2.out) i; obtain ⟨tm, df⟩ := a; (obtain ⟨ys, hys, htm, rfl⟩ := frame_mid2 144 21 (by kernel_rfl) (Nat.le_of_ble_eq_true rfl) hold); obtain ⟨x144, x145, x146, x147, x148, x149, x150, x151, x152, x153, x154, x155, x156, x157, x158, x159, x160, x161, x162, x163, x164, rfl⟩ := rowA21 ys hys; simp only [List.take_succ_cons, List.take_zero, List.drop_succ_cons, List.drop_zero, List.cons_append, List.nil_append] at htm; subst htm; obtain rfl : x163 = _ := someInjM tvS; obtain rfl : x164 = _ := someInjM tvP; clear hys hold hgot tvS tvP; go_simp; refine hK.out _ _ ?_; clear hK a0 a1; obtain ⟨Y, hY⟩ : ∃ Y, Y = wx.setCell ⟨OUT, i, none⟩ (.bool false) := ⟨_, rfl⟩
                      have HY1 : Hid (Y.heap[OUT]? = some (.cells ((outC N i T).setIfInBounds i (.bool ((SX.take (q + 1)).all K0))) 4 (0, 0))) := by
                        (rw [hY, show (SX.take (q + 1)).all K0 = false from HTk.out.trans (by simp)]); exact outC_put2 (below_keep hB HA2.out)
                      (have HY2 : Hid (Below w1.heap.size w1 Y) := by rw [hY]; exact (below_join HB2.out hB).setCell (p := ⟨OUT, i, none⟩) (by have := HO.out; simp; omega) _); (have HY3 : Hid (Far OUT R0 Y) := by rw [hY]; exact (HFa2.out.below hB).set _ _); rw [← hY]; clear hY; go_wp2_with fail
                      go_roundg (SX.length - (q + 1))
                      case measure => have := HGq.out; have := HQ.out; omega
                      case rel => exact ⟨q + 1, HQ.out, rfl, by go_num, HY1, HY2, HY3⟩
                · have hqq : q = SX.length := by omega
                  subst hqq; (have hge : ¬ (SX.length : Int) < (SX.length : Int) := by omega); rw [List.take_length] at HA2; clear hlt hq; go_wp2_with fail
                  go_roundg (N - (i + 1))
                  case measure => have := HGk.out; have := HI.out; omega
                  case rel => exact ⟨i + 1, HI.out, rfl, by go_num, by have := HA2.out; rw [← HTe.out, outC_set] at this; exact this, HB2, HFa2⟩
            · have hii : N = i := by omega
              subst hii; (have hge : ¬ (N : Int) < (N : Int) := by omega); clear hlt hi; go_wp2_with fail; go_ret; (exact ⟨OUT, rfl, by have := HO.out; have := HB1.out.size; omega, HA.out, below_join HB1.out HB.out⟩)
        · exact absurd HCs.out (by decide)
      · cases e
        clear hg hg'
        rcases hk with rfl | rfl | rfl
        · exact absurd HCs.out (by decide)
        · exact absurd HCs.out (by decide)
        · exact absurd HCs.out (by decide)
end Go.Proofs.Ytmahgfgndfcmpag
/- Walks: at which worlds a formula is true, by the yardstick: kinds 9. -/
namespace Go.Proofs.Ytmahgfgndfcmpag
open Go.RowKit Go.Sort

set_option maxRecDepth 10000 in
set_option maxHeartbeats 16000000 in
theorem allR_E (N : Nat) (hN1 : 0 < N) (hN : N ≤ 40) (rel : List (Int × Int)) (hrl : rel.length ≤ 2000) (hin : InR N rel) (tr : List (List (List UInt8))) (htr : tr.length = N) (m : Nat) (ih : AllR N rel tr m) (k : Int) (n : ByteArray) (ks : List Fm) (hc : k = 9) (hm : (Fm.mk k n ks).size < m + 1) (hfi : Fine (.mk k n ks)) : AllF N rel tr (.mk k n ks) := by
  intro v u w hv hrep; have HCs : Hid (k = 9) := hc; clear hc; have HIn : Hid (InR N rel) := hin; have HN : Hid (N ≤ 40) := hN; have HTr : Hid (tr.length = N) := htr; (have HM : Hid (∀ W, Below w.heap.size w W → MR W ⟨(N : Int), rel, tr⟩ v) := fun W hb => hv.up hb); obtain ⟨ra, rc, ta, tc, rfl, hpl, hsl, hmx⟩ := hv; simp only at hpl hsl hmx HM ⊢; have HPl : Hid (PL w (.slice ra rel.length rc) rel) := hpl; obtain ⟨ta', tc', e2, s1, s2, s3⟩ := hsl; simp only [Value.slice.injEq, true_and] at e2; obtain ⟨rfl, rfl⟩ := e2; (obtain ⟨tb, toff, rfl, hcT⟩ := s3 (fun e => by rw [e] at htr; simp at htr; omega))
  obtain ⟨tv, htv⟩ : ∃ tv : Nat → Value, ∀ q, q < N → w.cell? ⟨tb, toff + q, none⟩ = some (tv q) ∧ SL w (tv q) (tr.getD q []) := by
    (refine ⟨fun q => (w.cell? ⟨tb, toff + q, none⟩).getD undef, fun q hq => ?_⟩); (obtain ⟨u, h1, h2⟩ := hcT q (tr.getD q []) (by rw [List.getD_eq_getElem?_getD, List.getElem?_eq_getElem (by omega)]; rfl)); simp only [h1, Option.getD_some]; exact ⟨trivial, h2⟩
  have HTv : Hid (∀ q, q < N → w.cell? ⟨tb, toff + q, none⟩ = some (tv q) ∧ SL w (tv q) (tr.getD q [])) := htv; (have htcI : (N : Int) ≤ (tc : Int) := by omega); (have hNI : (N : Int) ≤ 40 := by omega); obtain ⟨sl, cap, rfl, hx1, hx2, hx3, hx4⟩ := Rep.def.1 hrep; (have HX : Hid (ks ≠ [] → ∃ b off, sl = some ⟨b, off, none⟩ ∧ True ∧ Reps w (fun _ => True) b off ks) := hx4); have hk2 := hfi.small.2; (have hkI : (ks.length : Int) ≤ 2 := by omega); have HF : Hid (Fine (.mk k n ks)) := hfi; (have HIh : Hid (∀ (i : Nat) (f : Fm), ks[i]? = some f → ∀ v u W, MR W ⟨(N : Int), rel, tr⟩ v → Rep W (fun _ => True) f u → Calls Try.prog 19 #[v, u] W _) := fun i f hi v u W h1 h2 => ih f v u W (by have := sizes_get hi; rw [Fm.size] at hm; omega) (HF.out.kid i f hi) h1 h2); obtain ⟨S, hS⟩ : ∃ S, S = seeR N (relB rel) := ⟨_, rfl⟩; (have HS : Hid (∀ u, S u = seenTo N rel u N) := fun u => by rw [hS]; exact seeR_eq hin u); obtain ⟨p, hp⟩ : ∃ p, p = pT tr := ⟨_, rfl⟩; (have HP : Hid (∀ u s, p u s = decide (s ∈ tr.getD u [])) := fun u s => by rw [hp, pT, List.contains_eq_mem]); rw [← hS, ← hp] at HIh ⊢; obtain ⟨Ks, hKs⟩ : ∃ Ks, Ks = mtvs S p ks := ⟨_, rfl⟩; have HKs : Hid (Ks = mtvs S p ks) := hKs; (have HKl : Hid (Ks.length = ks.length) := by rw [hKs]; exact mtvs_len _ _ _); obtain ⟨T, hT⟩ : ∃ T, T = mtv S p (.mk k n ks) := ⟨_, rfl⟩; (have HT : Hid (T = mval S k (fun u => p u n.data.toList) Ks) := by show _ = _; rw [hT, hKs, mtv]); rw [← hT]; (have HSe : Hid (∀ W, PL W (.slice ra rel.length rc) rel → Calls Try.prog 43 #[.agg #[.int .i64 (N : Nat), .slice ra rel.length rc, .slice (some ⟨tb, toff, none⟩) tr.length tc]] W _) := fun W h => seen_any N hN rel hrl hin ra (some ⟨tb, toff, none⟩) rc tr.length tc W h); (have hmk := fun w => run_make_row' (P := Try.prog) 32 4 (.bool false) 1 Try.underlying32 (by kernel_rfl) rfl .i64 .i64 N (by omega) (by omega) w); obtain ⟨W0, hW0⟩ : ∃ W0, W0 = (w.alloc (.cells #[.int .i64 (N : Nat), .slice ra rel.length rc, .slice (some ⟨tb, toff, none⟩) tr.length tc] 25 (0, 0))).alloc (.cells #[.int .i64 k, .string n, .slice sl ks.length cap] 28 (0, 0)) := ⟨_, rfl⟩; (have HB0 : Hid (Below w.heap.size w W0) := by rw [hW0]; exact below_more (below_more (Below.refl _ w) _) _); (have HM0 : Hid (W0.heap[w.heap.size]? = some (.cells #[.int .i64 (N : Nat), .slice ra rel.length rc, .slice (some ⟨tb, toff, none⟩) tr.length tc] 25 (0, 0))) := by rw [hW0]; exact alloc_keep (blk_new _ _) _); (have HF0 : Hid (W0.heap[w.heap.size + 1]? = some (.cells #[.int .i64 k, .string n, .slice sl ks.length cap] 28 (0, 0))) := by rw [hW0]; exact blk_secE _ _ _); clear hpl hmx s1 s2 s3 hcT htv hin hrl htr hN ih hx4 hfi hrep hS hp hKs hT hx1 hx3 hm hk2
  go_enter Try.func19, Try.ntmps19
  go_wp2_with fail; rw [← hW0]; refine (HSe.out W0 (HPl.out.up HB0.out)).mono ?_; rintro _ w1 ⟨g, rfl, hg0, hsn, hb1⟩; have HSn : Hid (SnR W0.heap.size w1 g N rel) := hsn; have HB1 : Hid (Below w.heap.size w w1) := below_join HB0.out hb1; have HM1 : Hid (w1.heap[w.heap.size]? = some (.cells #[.int .i64 (N : Nat), .slice ra rel.length rc, .slice (some ⟨tb, toff, none⟩) tr.length tc] 25 (0, 0))) := below_keep hb1 HM0.out; have HF1 : Hid (w1.heap[w.heap.size + 1]? = some (.cells #[.int .i64 k, .string n, .slice sl ks.length cap] 28 (0, 0))) := below_keep hb1 HF0.out; clear hg0 hsn hb1 hW0 HSe HM0 HF0 HB0; obtain ⟨OUT, hO⟩ : ∃ OUT, OUT = w1.heap.size := ⟨_, rfl⟩; have HO : Hid (OUT = w1.heap.size) := hO; obtain ⟨k0, k1, k2, -⟩ := blk3 HM1.out; go_wp2_with fail; obtain ⟨W2, hW2⟩ : ∃ W2, W2 = w1.alloc (.cells (madeCells #[Value.bool false] N) 4 (0, 0)) := ⟨_, rfl⟩; (have HW2o : Hid (W2.heap[OUT]? = some (.cells (outC N 0 T) 4 (0, 0))) := by rw [hW2, ← outC_zero, hO]; exact blk_new _ _); (have HW2b : Hid (Below w1.heap.size w1 W2) := by rw [hW2]; exact below_more (Below.refl _ _) _); (have HW2z : Hid (W2.heap.size = OUT + 1) := by show _ = _; rw [hW2, hO]; simp); rw [← hW2, ← hO]; clear hmk k0 k1 k2 hO hW2
  go_loopg [8, 7] ks.length (fun gg cc x wr => ∃ i gs ad cp, i ≤ ks.length ∧ gg = ks.length - i ∧ cc = .int .i64 (i : Nat) ∧ x = .slice ad i cp ∧ Hid (KbS OUT wr N gs (Ks.take i)) ∧ Hid (gs.length = i) ∧ Hid (wr.ownsRow (OUT + 1) 32 1 (.slice ad i cp) i (gs.map (encB N))) ∧ Hid (Below W2.heap.size W2 wr) ∧ Hid (OUT + 1 ≤ wr.heap.size))
  case atStart => exact ⟨0, [], none, 0, by omega, by omega, rfl, rfl, ⟨by simp, fun j b K h => by simp at h⟩, rfl, ⟨rfl, Or.inl ⟨rfl, rfl⟩⟩, Below.refl _ _, by show _ ≤ _; rw [HW2z.out]; omega⟩
  case round =>
    obtain ⟨i, gs, ad, cp, hi, hg, rfl, rfl, HK, HGl, HOw, HB, HSz⟩ := hrel; have HGk : Hid (gk = ks.length - i) := hg; clear hg; have HBa : Hid (Below w1.heap.size w1 wr) := below_join HW2b.out HB.out; have HMr : Hid (wr.heap[w.heap.size]? = some (.cells #[.int .i64 (N : Nat), .slice ra rel.length rc, .slice (some ⟨tb, toff, none⟩) tr.length tc] 25 (0, 0))) := below_keep HBa.out HM1.out; have HFr : Hid (wr.heap[w.heap.size + 1]? = some (.cells #[.int .i64 k, .string n, .slice sl ks.length cap] 28 (0, 0))) := below_keep HBa.out HF1.out; have HBw : Hid (Below w.heap.size w wr) := below_join HB1.out HBa.out; by_cases hlt : i < ks.length
    · obtain ⟨k0, k1, k2, -⟩ := blk3 HFr.out
      obtain ⟨⟨kq, nq, kks⟩, hki⟩ : ∃ f, ks[i]? = some f := ⟨_, List.getElem?_eq_getElem hlt⟩; (have hltI : (i : Int) < (ks.length : Int) := by omega); (have hlc : (i : Int) < (cap : Int) := by omega); (obtain ⟨b, off, rfl, -, hrs⟩ := HX.out (fun e => by rw [e] at hlt; simp at hlt)); obtain ⟨slq, cpq, g0, g1, g2, hrep2⟩ := (hrs.up HBw.out).at i kq nq kks hki; have HG0 : Hid (wr.cell? ⟨b, off + i * 3, none⟩ = some (.int .i64 kq)) := g0; have HG1 : Hid (wr.cell? ⟨b, off + i * 3 + 1, none⟩ = some (.string nq)) := g1; have HG2 : Hid (wr.cell? ⟨b, off + i * 3 + 2, none⟩ = some (.slice slq kks.length cpq)) := g2; (have HR2 : Hid (Rep wr (fun _ => True) (.mk kq nq kks) (.agg #[.int .i64 kq, .string nq, .slice slq kks.length cpq])) := hrep2); have HC := HIh.out i _ hki; obtain ⟨KN, hKN⟩ : ∃ KN, KN = mtv S p (.mk kq nq kks) := ⟨_, rfl⟩; rw [← hKN] at HC; (have HTk : Hid (Ks.take (i + 1) = Ks.take i ++ [KN]) := by rw [HKs.out, hKN]; exact mtvs_take _ _ _ _ _ hki); (have HC : Hid (∀ v u W, MR W ⟨(N : Int), rel, tr⟩ v → Rep W (fun _ => True) (.mk kq nq kks) u → Calls Try.prog 19 #[v, u] W _) := HC); have HI : Hid (i < ks.length) := hlt; (have hi2 : (i : Int) < 2 := by omega); clear hki hrs g0 g1 g2 hrep2 hKN hlt hi; go_wp2_with fail; clear k0 k1 k2; (refine wp_region_wrb (by kernel_rfl) [fun v _ => v = (.slice ad i cp), fun v _ => v = (.agg #[.int .i64 (N : Nat), .slice ra rel.length rc, .slice (some ⟨tb, toff, none⟩) tr.length tc]), fun v _ => v = (.pointer (some ⟨w.heap.size + 1, 2, none⟩)), fun v _ => v = (.slice (some ⟨b, off, none⟩) ks.length cap), fun v _ => v = (.int .i64 (i : Nat)), fun v _ => v = (.pointer (some ⟨b, off + i * 3, none⟩)), fun v _ => v = (.agg #[.int .i64 kq, .string nq, .slice slq kks.length cpq]), fun v w9 => ∃ gn, v = .slice (some ⟨gn, 0, none⟩) N N ∧ OUT < gn ∧ w9.heap[gn]? = some (.cells (outC N N KN) 4 (0, 0)), fun v w9 => ∃ b9 gn, v = .slice (some ⟨b9, 0, none⟩) 1 1 ∧ w9.cell? ⟨b9, 0, none⟩ = some (.slice (some ⟨gn, 0, none⟩) N N) ∧ OUT < gn ∧ w9.heap[gn]? = some (.cells (outC N N KN) 4 (0, 0)), fun _ _ => True] ?_ (by kernel_rfl) (by kernel_rfl) 198 rfl (by kernel_rfl) 10 _ rfl rfl (by kernel_rfl) (fun i => none) 9 _ (by decide) rfl rfl 10 (by kernel_rfl) (fun v w9 => ∃ g3 cp3 gn, v = .slice (some ⟨g3, 0, none⟩) (i + 1) cp3 ∧ w9.ownsRow (OUT + 1) 32 1 (.slice (some ⟨g3, 0, none⟩) (i + 1) cp3) (i + 1) (gs.map (encB N) ++ [encB N gn]) ∧ OUT < gn ∧ w9.heap[gn]? = some (.cells (outC N N KN) 4 (0, 0)) ∧ KbS OUT w9 N gs (Ks.take i) ∧ Below W2.heap.size W2 w9 ∧ OUT + 1 ≤ w9.heap.size) ?_ ?_ ?_ ?_)
      · intro p hp
        simp only [List.mem_cons, List.not_mem_nil, or_false] at hp
        rcases hp with rfl | rfl | rfl | rfl | rfl | rfl | rfl | rfl | rfl | rfl
        · exact fun _ _ _ h _ => h
        · exact fun _ _ _ h _ => h
        · exact fun _ _ _ h _ => h
        · exact fun _ _ _ h _ => h
        · exact fun _ _ _ h _ => h
        · exact fun _ _ _ h _ => h
        · exact fun _ _ _ h _ => h
        · rintro v wa wb ⟨gn, e, h1, h2⟩ hb
          exact ⟨gn, e, h1, below_keep hb h2⟩
        · rintro v wa wb ⟨b9, gn, e, h0, h1, h2⟩ hb
          exact ⟨b9, gn, e, (hb.cell (lt_of_cell h0)).trans h0, h1, below_keep hb h2⟩
        · exact fun _ _ _ h _ => h
      · intro j c wq hj
        cases hj
      · refine ⟨?_, ?_, ?_, ?_, ?_, ?_, ?_, ?_, ?_, ?_, trivial⟩
        · show StepOkB _ _ _ _ _ _ _ _ _
          intro a wx hB hold hdep K hK; have t7 : a.tmps[7]? = some (.slice ad i cp) := hold.2.2 7 rfl; clear hold hdep; go_simp; exact hK.out _ _ rfl (Below.refl _ _)
        · show StepOkB _ _ _ _ _ _ _ _ _
          intro a wx hB hold hdep K hK; have t2 : a.tmps[2]? = some (.pointer (some ⟨w.heap.size, 0, none⟩)) := hold.2.2 2 rfl; obtain ⟨k0, k1, k2, -⟩ := blk3 (below_keep hB HMr.out); clear hold hdep; go_simp; exact hK.out _ _ rfl (Below.refl _ _)
        · show StepOkB _ _ _ _ _ _ _ _ _
          intro a wx hB hold hdep K hK; have t3 : a.tmps[3]? = some (.pointer (some ⟨w.heap.size + 1, 0, none⟩)) := hold.2.2 3 rfl; clear hold hdep; go_simp; exact hK.out _ _ rfl (Below.refl _ _)
        · show StepOkB _ _ _ _ _ _ _ _ _
          intro a wx hB hold hdep K hK; obtain ⟨v26, t26, p26⟩ := hdep 2 rfl _ 26 rfl rfl; have e26 : v26 = (.pointer (some ⟨w.heap.size + 1, 2, none⟩)) := p26; subst e26; obtain ⟨k0, k1, k2, -⟩ := blk3 (below_keep hB HFr.out); clear hold hdep; go_simp; exact hK.out _ _ rfl (Below.refl _ _)
        · show StepOkB _ _ _ _ _ _ _ _ _
          intro a wx hB hold hdep K hK; have t8 : a.tmps[8]? = some (.int .i64 (i : Nat)) := hold.2.2 8 rfl; clear hold hdep; go_simp; exact hK.out _ _ rfl (Below.refl _ _)
        · show StepOkB _ _ _ _ _ _ _ _ _
          intro a wx hB hold hdep K hK; obtain ⟨v27, t27, p27⟩ := hdep 3 rfl _ 27 rfl rfl; have e27 : v27 = (.slice (some ⟨b, off, none⟩) ks.length cap) := p27; subst e27; obtain ⟨v28, t28, p28⟩ := hdep 4 rfl _ 28 rfl rfl; have e28 : v28 = (.int .i64 (i : Nat)) := p28; subst e28; clear hold hdep; go_simp; exact hK.out _ _ rfl (Below.refl _ _)
        · show StepOkB _ _ _ _ _ _ _ _ _
          intro a wx hB hold hdep K hK; obtain ⟨v29, t29, p29⟩ := hdep 5 rfl _ 29 rfl rfl; have e29 : v29 = (.pointer (some ⟨b, off + i * 3, none⟩)) := p29; subst e29; have c0 := (hB.cell (lt_of_cell HG0.out)).trans HG0.out; have c1 := (hB.cell (lt_of_cell HG1.out)).trans HG1.out; have c2 := (hB.cell (lt_of_cell HG2.out)).trans HG2.out; clear hold hdep; go_simp; exact hK.out _ _ rfl (Below.refl _ _)
        · show StepOkB _ _ _ _ _ _ _ _ _
          intro a wx hB hold hdep K hK; obtain ⟨v25, t25, p25⟩ := hdep 1 rfl _ 25 rfl rfl; have e25 : v25 = (.agg #[.int .i64 (N : Nat), .slice ra rel.length rc, .slice (some ⟨tb, toff, none⟩) tr.length tc]) := p25; subst e25; obtain ⟨v30, t30, p30⟩ := hdep 6 rfl _ 30 rfl rfl; have e30 : v30 = (.agg #[.int .i64 kq, .string nq, .slice slq kks.length cpq]) := p30; subst e30; have HW := HC.out (.agg #[.int .i64 (N : Nat), .slice ra rel.length rc, .slice (some ⟨tb, toff, none⟩) tr.length tc]) (.agg #[.int .i64 kq, .string nq, .slice slq kks.length cpq]) wx (HM.out wx (below_join HBw.out hB)) (HR2.out.up hB); have HW : Hid (Calls Try.prog 19 #[(.agg #[.int .i64 (N : Nat), .slice ra rel.length rc, .slice (some ⟨tb, toff, none⟩) tr.length tc]), (.agg #[.int .i64 kq, .string nq, .slice slq kks.length cpq])] wx _) := HW; have hz9 : OUT + 1 ≤ wx.heap.size := Nat.le_trans HSz.out hB.size; have Hz9 : Hid (OUT + 1 ≤ wx.heap.size) := hz9; clear hz9; clear hold hdep; go_simp; refine HW.out.mono ?_; rintro _ w9 ⟨gn, rfl, h1, h2, hb9⟩; have H2 : Hid (w9.heap[gn]? = some (.cells (outC N N KN) 4 (0, 0))) := h2; clear h2; go_simp; (exact hK.out _ _ ⟨gn, rfl, by have := Hz9.out; omega, H2.out⟩ hb9)
        · show StepOkB _ _ _ _ _ _ _ _ _
          intro a wx hB hold hdep K hK; obtain ⟨v31, t31, p31⟩ := hdep 7 rfl _ 31 rfl rfl; (have P31 : Hid ((fun v w9 => ∃ gn, v = .slice (some ⟨gn, 0, none⟩) N N ∧ OUT < gn ∧ w9.heap[gn]? = some (.cells (outC N N KN) 4 (0, 0))) v31 wx) := p31); clear p31; obtain ⟨gn, e31, h1, h2⟩ := P31.out; subst e31; have H2 : Hid (OUT < gn ∧ wx.heap[gn]? = some (.cells (outC N N KN) 4 (0, 0))) := ⟨h1, h2⟩; clear h1 h2 P31; clear hold hdep; go_simp; (exact hK.out _ _ ⟨_, gn, rfl, by simp, H2.out.1, alloc_keep H2.out.2 _⟩ (below_more (Below.refl _ _) _))
        · exact trivial
      · intro a wx hB hold hgot K hK
        (obtain ⟨vA, tvA, pvA⟩ := hgot 0 _ 24 (by decide) (by decide) rfl rfl rfl); have evA : vA = (.slice ad i cp) := pvA; subst evA; (obtain ⟨vB, tvB, pvB⟩ := hgot 8 _ 32 (by decide) (by decide) rfl rfl rfl); obtain ⟨b9, gn, rfl, hb9, hgn1, hgn2⟩ := pvB; obtain ⟨i0, hi0, hz0, hz1, hz2⟩ := infoBs; have hsz : OUT + 1 ≤ wx.heap.size := Nat.le_trans HSz.out hB.size; (refine step_append_lies _ rfl _ _ 89 rfl (OUT + 1) 32 i0 (.slice none 0 0) 1 24 Try.underlying89 hi0 hz0 hz1 hz2 rfl (by decide) (.slice ad i cp) i (gs.map (encB N)) (eval_tmpM tvA) (rowM_up HOw.out hB) ⟨b9, 0, none⟩ 1 1 [encB N gn] (eval_tmpM tvB) rfl ?_ ?_ (by omega) (by unfold maxLen; omega) (by omega) hsz _ rfl ?_)
        · intro j u hu
          cases j with
          | zero => simp at hu; subst hu; rw [add_none]; exact hb9
          | succ j => simp at hu
        · intro u hu
          simp at hu; subst hu; rfl
        intro g3 cp3 w3 hown3 hgrow hat hlt3; have hlt' := HOw.out.lt; have hown' := rowM_up HOw.out hB; refine hK.out _ _ ⟨g3, cp3, gn, rfl, hown3, hgn1, ?_, ?_, ?_, ?_⟩
        · exact (hgrow.block gn (lt_of_block hgn2) fun e => rowM_ne hown' hgn2 (by decide) e.symm).trans hgn2
        · exact (HK.out.move fun b cur h => hB.block b (lt_of_block h)).move fun b cur h => hgrow.block b (lt_of_block h) fun e => rowM_ne hown' h (by decide) e.symm
        · exact ((below_join HB.out hB).grown hgrow (below_join HB.out hB).size fun k hk => by have := (hlt' k hk).1; have := HW2z.out; omega)
        · exact Nat.le_trans hsz hgrow.size
      · intro a wx hold hpx hpu K hK
        obtain ⟨v9, t9, g3, cp3, gn, rfl, h1, h2, h3, h4, h5, h6⟩ := hpx 33 rfl; (have HO1 : Hid (wx.ownsRow (OUT + 1) 32 1 (.slice (some ⟨g3, 0, none⟩) (i + 1) cp3) (i + 1) ((gs ++ [gn]).map (encB N))) := by rw [List.map_append]; exact h1); (have HO2 : Hid (KbS OUT wx N (gs ++ [gn]) (Ks.take (i + 1))) := by rw [HTk.out]; exact h4.snoc h2 h3); have HO3 : Hid (Below W2.heap.size W2 wx) := h5; have HO4 : Hid (OUT + 1 ≤ wx.heap.size) := h6; obtain ⟨tm, df⟩ := a; (obtain ⟨ys, hys, htm, rfl⟩ := frame_mid2 24 10 (by kernel_rfl) (Nat.le_of_ble_eq_true rfl) hold); obtain ⟨x24, x25, x26, x27, x28, x29, x30, x31, x32, x33, rfl⟩ := rowA10 ys hys; simp only [List.take_succ_cons, List.take_zero, List.drop_succ_cons, List.drop_zero, List.cons_append, List.nil_append] at htm; subst htm; obtain rfl : x33 = _ := someInjM t9; clear hys hold hpx hpu t9 h1 h2 h3 h4 h5 h6; go_simp; refine hK.out _ _ ?_; clear hK; go_wp2_with fail
        go_roundg (ks.length - (i + 1))
        case measure => have := HGk.out; have := HI.out; omega
        case rel => exact ⟨i + 1, gs ++ [gn], some ⟨g3, 0, none⟩, cp3, HI.out, rfl, by go_num, rfl, HO2, by show _ = _; simp [HGl.out], HO1, HO3, HO4⟩
    · have hii : ks.length = i := by omega
      subst hii; (have hge : ¬ (ks.length : Int) < (ks.length : Int) := by omega)
      have HKa : Hid (KbS OUT wr N gs Ks) := by
        have := HK.out; (rw [List.take_of_length_le (by rw [HKl.out]; omega)] at this); exact this
      have HFo : Hid (wr.heap[OUT]? = some (.cells (outC N 0 T) 4 (0, 0))) := below_keep HB.out HW2o.out; clear hlt hi HK HX HIh; obtain ⟨R0, hR0⟩ : ∃ R0, R0 = wr := ⟨_, rfl⟩; subst hR0; (have HOk : Hid (w.heap.size ≠ OUT ∧ w.heap.size + 1 ≠ OUT) := by have := lt_of_block HF1.out; have := HO.out; exact ⟨by omega, by omega⟩); obtain ⟨k0, k1, k2, -⟩ := blk3 HFr.out; go_wp2_with fail; clear k0 k1 k2 hge; obtain ⟨kl, hkl⟩ : ∃ kl, kl = ks.length := ⟨_, rfl⟩; have HKL : Hid (kl = ks.length) := hkl; rw [← hkl] at HFr HGl HOw HKl ⊢; clear hkl
      rcases HF.out.forms with ⟨n', e, hn⟩ | e | e | ⟨k', q, hk, e, hg⟩ | ⟨k', q, q', hk, e, hg, hg'⟩
      · cases e
        (exact absurd HCs.out (by decide))
      · cases e
        (exact absurd HCs.out (by decide))
      · cases e
        (exact absurd HCs.out (by decide))
      · cases e
        clear hg
        rcases hk with rfl | rfl | rfl
        · exact absurd HCs.out (by decide)
        · exact absurd HCs.out (by decide)
        · clear HCs
          have hkl : kl = 1 := HKL.out; subst hkl
          obtain ⟨g0, rfl⟩ : ∃ g0, gs = [g0] := by
            match gs, HGl.out with
            | [g0], _ => exact ⟨g0, rfl⟩
          obtain ⟨K0, rfl⟩ : ∃ K0, Ks = [K0] := by
            match Ks, HKl.out with
            | [K0], _ => exact ⟨K0, rfl⟩
          (have HG0 : Hid (g0 ≠ OUT ∧ R0.heap[g0]? = some (.cells (outC N N K0) 4 (0, 0))) := ⟨by have := (HKa.out.2 0 g0 K0 rfl rfl).1; omega, (HKa.out.2 0 g0 K0 rfl rfl).2⟩); (obtain ⟨kb, rfl, hkc⟩ := rowM_cells HOw.out (by omega)); (have hkO : kb ≠ OUT := by have := (HOw.out.lt kb rfl).1; omega); have HKO : Hid (kb ≠ OUT) := hkO; have HKb0 : Hid (R0.cell? ⟨kb, 0, none⟩ = some (.slice (some ⟨g0, 0, none⟩) N N)) := hkc 0 _ rfl; (have hcI : (1 : Int) ≤ (cp : Int) := by have := (rowM_caps HOw.out).1; omega); clear hkc hkO HKa HGl HKl HOw HKs; (have HTi : Hid (∀ u, T u = (S u).any K0) := fun u => by rw [HT.out]; rfl); clear HT
          go_loopg [9] N (fun gg cc wr => ∃ i, i ≤ N ∧ gg = N - i ∧ cc = .int .i64 (i : Nat) ∧ Hid (wr.heap[OUT]? = some (.cells (outC N i T) 4 (0, 0))) ∧ Hid (Below w1.heap.size w1 wr) ∧ Hid (Far OUT R0 wr))
          case atStart => exact ⟨0, by omega, by omega, rfl, HFo, HBa, Far.refl _ _⟩
          case round =>
            obtain ⟨i, hi, hg, rfl, HA, HB, HFa⟩ := hrel; have HGk : Hid (gk = N - i) := hg; clear hg; obtain ⟨m0, m1, m2, -⟩ := blk3 (HFa.out.blk HOk.out.1 HMr.out); obtain ⟨f0, f1, f2, -⟩ := blk3 (HFa.out.blk HOk.out.2 HFr.out); by_cases hlt : i < N
            · have hltI : (i : Int) < (N : Int) := by omega
              have HI : Hid (i < N) := hlt; have e0 := blk_cell HA.out i; rw [outC_get hlt] at e0; have e1 := blk_fz HA.out i; clear hlt hi; obtain ⟨sa, sc, s0, s1, s2, s3⟩ := HSn.out.row HI.out; have hsl := seenTo_len N rel i N; obtain ⟨SX, hSX⟩ : ∃ SX, SX = seenTo N rel i N := ⟨_, rfl⟩; rw [← hSX] at s0 s1 s3 hsl; (have HTe : Hid (T i = SX.any K0) := by show _ = _; rw [HTi.out, HS.out, hSX]); (have HSm : Hid (∀ z ∈ SX, z < N) := fun z hz => by rw [hSX] at hz; exact ((seenTo_mem HIn.out).1 hz).1); have HC0 : Hid (w1.cell? ⟨g, i, none⟩ = some (.slice sa SX.length sc)) := s0; have HC3 : Hid (0 < SX.length → ∃ b, sa = some ⟨b, 0, none⟩ ∧ ∀ (j k : Nat), SX[j]? = some k → w1.cell? ⟨b, j, none⟩ = some (.int .i64 (k : Nat))) := s3; (have hscI : (SX.length : Int) ≤ (sc : Int) := by omega); (have hslI : (SX.length : Int) ≤ 40 := by have := HN.out; omega); clear s0 s1 s2 s3 hsl hSX; go_wp2_with fail; clear e0 e1 m0 m1 m2 f0 f1 f2
              go_loopg [11] SX.length (fun gg cc wy => ∃ q, q ≤ SX.length ∧ gg = SX.length - q ∧ cc = .int .i64 (q : Nat) ∧ Hid (wy.heap[OUT]? = some (.cells ((outC N i T).setIfInBounds i (.bool ((SX.take q).any K0))) 4 (0, 0))) ∧ Hid (Below w1.heap.size w1 wy) ∧ Hid (Far OUT R0 wy))
              case atStart => exact ⟨0, by omega, by omega, rfl, by rw [List.take_zero, List.any_nil, ← outC_off]; exact HA, HB, HFa⟩
              case round =>
                obtain ⟨q, hq, hg, rfl, HA2, HB2, HFa2⟩ := hrel; have HGq : Hid (gk = SX.length - q) := hg; clear hg; have d1 := (HB2.out.cell (lt_of_cell HC0.out)).trans HC0.out; by_cases hlt : q < SX.length
                · obtain ⟨nv, hv⟩ : ∃ v, SX[q]? = some v := ⟨_, List.getElem?_eq_getElem hlt⟩
                  (obtain ⟨bs, rfl, hcs⟩ := HC3.out (by omega)); have HD2 : Hid (wr.cell? ⟨bs, q, none⟩ = some (.int .i64 (nv : Nat))) := (HB2.out.cell (lt_of_cell (hcs q nv hv))).trans (hcs q nv hv); have hvN : nv < N := HSm.out nv (List.mem_of_getElem? hv); (have hvI : (nv : Int) < (N : Int) := by omega); (have hqI : (q : Int) < (SX.length : Int) := by omega); (have hqc : (q : Int) < (sc : Int) := by omega); have HQ : Hid (q < SX.length) := hlt; have HD1 : Hid (wr.cell? ⟨g, i, none⟩ = some (.slice (some ⟨bs, 0, none⟩) SX.length sc)) := d1; have HD3 : Hid (wr.cell? ⟨kb, 0, none⟩ = some (.slice (some ⟨g0, 0, none⟩) N N)) := HFa2.out.cell (a := ⟨kb, 0, none⟩) HKO.out HKb0.out
                  have HD4 : Hid (wr.cell? ⟨g0, nv, none⟩ = some (.bool (K0 nv))) := by
                    have := blk_cell (HFa2.out.blk HG0.out.1 HG0.out.2) nv; rw [outC_full hvN] at this; exact this
                  (have HTk : Hid ((SX.take (q + 1)).any K0 = ((SX.take q).any K0 || K0 nv)) := by show _ = _; rw [List.take_add_one, hv]; simp); obtain ⟨x, hx⟩ : ∃ x, x = (SX.take q).any K0 := ⟨_, rfl⟩; rw [← hx] at HA2 HTk; generalize K0 nv = y at HD4 HTk; clear hlt hq hv hcs hvN hx; go_wp2_with fail; clear d1
                  cases x with
                  | true =>
                    (refine wp_region_last (by kernel_rfl) [fun v _ => v = (.slice (some ⟨OUT, 0, none⟩) N N), fun v _ => v = (.int .i64 (i : Nat)), fun v _ => v = (.slice (some ⟨OUT, 0, none⟩) N N), fun v _ => v = (.int .i64 (i : Nat)), fun v _ => v = (.pointer (some ⟨OUT, i, none⟩)), fun v _ => v = (.bool true), fun v _ => v = (.bool true), fun _ _ => True, fun _ _ => True, fun _ _ => True, fun _ _ => True, fun _ _ => True, fun _ _ => True, fun _ _ => True, fun _ _ => True, fun _ _ => True, fun _ _ => True, fun _ _ => True, fun _ _ => True, fun v _ => v = (.bool true), fun v _ => v = (.pointer (some ⟨OUT, i, none⟩))] ?_ (by kernel_rfl) (by kernel_rfl) 198 rfl (by kernel_rfl) 21 _ rfl rfl (by kernel_rfl) ?_ ?_)
                    · intro p hp
                      simp only [List.mem_cons, List.not_mem_nil, or_false] at hp
                      rcases hp with rfl | rfl | rfl | rfl | rfl | rfl | rfl | rfl | rfl | rfl | rfl | rfl | rfl | rfl | rfl | rfl | rfl | rfl | rfl | rfl | rfl
                      · exact fun _ _ _ h _ => h
                      · exact fun _ _ _ h _ => h
                      · exact fun _ _ _ h _ => h
                      · exact fun _ _ _ h _ => h
                      · exact fun _ _ _ h _ => h
                      · exact fun _ _ _ h _ => h
                      · exact fun _ _ _ h _ => h
                      · exact fun _ _ _ h _ => h
                      · exact fun _ _ _ h _ => h
                      · exact fun _ _ _ h _ => h
                      · exact fun _ _ _ h _ => h
                      · exact fun _ _ _ h _ => h
                      · exact fun _ _ _ h _ => h
                      · exact fun _ _ _ h _ => h
                      · exact fun _ _ _ h _ => h
                      · exact fun _ _ _ h _ => h
                      · exact fun _ _ _ h _ => h
                      · exact fun _ _ _ h _ => h
                      · exact fun _ _ _ h _ => h
                      · exact fun _ _ _ h _ => h
                      · exact fun _ _ _ h _ => h
                    · refine ⟨?_, ?_, ?_, ?_, ?_, ?_, ?_, ?_, ?_, ?_, ?_, ?_, ?_, ?_, ?_, ?_, ?_, ?_, ?_, ?_, ?_, trivial⟩
                      · intro a wx hB hold hdep K hK
                        have t6 : a.tmps[6]? = some (.slice (some ⟨OUT, 0, none⟩) N N) := hold.2.2 6 rfl; clear hold hdep; go_simp; exact hK.out _ _ rfl (Below.refl _ _)
                      · intro a wx hB hold hdep K hK
                        have t9 : a.tmps[9]? = some (.int .i64 (i : Nat)) := hold.2.2 9 rfl; clear hold hdep; go_simp; exact hK.out _ _ rfl (Below.refl _ _)
                      · intro a wx hB hold hdep K hK
                        have t6 : a.tmps[6]? = some (.slice (some ⟨OUT, 0, none⟩) N N) := hold.2.2 6 rfl; clear hold hdep; go_simp; exact hK.out _ _ rfl (Below.refl _ _)
                      · intro a wx hB hold hdep K hK
                        have t9 : a.tmps[9]? = some (.int .i64 (i : Nat)) := hold.2.2 9 rfl; clear hold hdep; go_simp; exact hK.out _ _ rfl (Below.refl _ _)
                      · intro a wx hB hold hdep K hK
                        obtain ⟨v178, t178, p178⟩ := hdep 2 rfl _ 178 rfl rfl; have e178 : v178 = (.slice (some ⟨OUT, 0, none⟩) N N) := p178; subst e178; obtain ⟨v179, t179, p179⟩ := hdep 3 rfl _ 179 rfl rfl; have e179 : v179 = (.int .i64 (i : Nat)) := p179; subst e179; clear hold hdep; go_simp; exact hK.out _ _ rfl (Below.refl _ _)
                      · intro a wx hB hold hdep K hK
                        obtain ⟨v180, t180, p180⟩ := hdep 4 rfl _ 180 rfl rfl; have e180 : v180 = (.pointer (some ⟨OUT, i, none⟩)) := p180; subst e180; have c9 := blk_cell (below_keep hB HA2.out) i; rw [outS_get HI.out] at c9; clear hold hdep; go_simp; exact hK.out _ _ rfl (Below.refl _ _)
                      · intro a wx hB hold hdep K hK
                        obtain ⟨v181, t181, p181⟩ := hdep 5 rfl _ 181 rfl rfl; have e181 : v181 = (.bool true) := p181; subst e181; clear hold hdep; go_simp; exact hK.out _ _ rfl (Below.refl _ _)
                      · intro a wx hB hold hdep K hK
                        obtain ⟨v182, t182, p182⟩ := hdep 6 rfl _ 182 rfl rfl; have e182 : v182 = (.bool true) := p182; subst e182; clear hold hdep; go_simp; exact hK.out _ _ trivial (Below.refl _ _)
                      · intro a wx hB hold hdep K hK
                        obtain ⟨v182, t182, p182⟩ := hdep 6 rfl _ 182 rfl rfl; have e182 : v182 = (.bool true) := p182; subst e182; clear hold hdep; go_simp; exact hK.out _ _ trivial (Below.refl _ _)
                      · intro a wx hB hold hdep K hK
                        obtain ⟨v182, t182, p182⟩ := hdep 6 rfl _ 182 rfl rfl; have e182 : v182 = (.bool true) := p182; subst e182; clear hold hdep; go_simp; exact hK.out _ _ trivial (Below.refl _ _)
                      · intro a wx hB hold hdep K hK
                        obtain ⟨v182, t182, p182⟩ := hdep 6 rfl _ 182 rfl rfl; have e182 : v182 = (.bool true) := p182; subst e182; clear hold hdep; go_simp; exact hK.out _ _ trivial (Below.refl _ _)
                      · intro a wx hB hold hdep K hK
                        obtain ⟨v182, t182, p182⟩ := hdep 6 rfl _ 182 rfl rfl; have e182 : v182 = (.bool true) := p182; subst e182; clear hold hdep; go_simp; exact hK.out _ _ trivial (Below.refl _ _)
                      · intro a wx hB hold hdep K hK
                        obtain ⟨v182, t182, p182⟩ := hdep 6 rfl _ 182 rfl rfl; have e182 : v182 = (.bool true) := p182; subst e182; clear hold hdep; go_simp; exact hK.out _ _ trivial (Below.refl _ _)
                      · intro a wx hB hold hdep K hK
                        obtain ⟨v182, t182, p182⟩ := hdep 6 rfl _ 182 rfl rfl; have e182 : v182 = (.bool true) := p182; subst e182; clear hold hdep; go_simp; exact hK.out _ _ trivial (Below.refl _ _)
                      · intro a wx hB hold hdep K hK
                        obtain ⟨v182, t182, p182⟩ := hdep 6 rfl _ 182 rfl rfl; have e182 : v182 = (.bool true) := p182; subst e182; clear hold hdep; go_simp; exact hK.out _ _ trivial (Below.refl _ _)
                      · intro a wx hB hold hdep K hK
                        obtain ⟨v182, t182, p182⟩ := hdep 6 rfl _ 182 rfl rfl; have e182 : v182 = (.bool true) := p182; subst e182; clear hold hdep; go_simp; exact hK.out _ _ trivial (Below.refl _ _)
                      · intro a wx hB hold hdep K hK
                        obtain ⟨v182, t182, p182⟩ := hdep 6 rfl _ 182 rfl rfl; have e182 : v182 = (.bool true) := p182; subst e182; clear hold hdep; go_simp; exact hK.out _ _ trivial (Below.refl _ _)
                      · intro a wx hB hold hdep K hK
                        obtain ⟨v182, t182, p182⟩ := hdep 6 rfl _ 182 rfl rfl; have e182 : v182 = (.bool true) := p182; subst e182; clear hold hdep; go_simp; exact hK.out _ _ trivial (Below.refl _ _)
                      · intro a wx hB hold hdep K hK
                        obtain ⟨v182, t182, p182⟩ := hdep 6 rfl _ 182 rfl rfl; have e182 : v182 = (.bool true) := p182; subst e182; clear hold hdep; go_simp; exact hK.out _ _ trivial (Below.refl _ _)
                      · intro a wx hB hold hdep K hK
                        obtain ⟨v182, t182, p182⟩ := hdep 6 rfl _ 182 rfl rfl; have e182 : v182 = (.bool true) := p182; subst e182; obtain ⟨v194, t194, p194⟩ := hdep 18 rfl _ 194 rfl rfl; (have P194 : Hid ((fun _ _ => True) v194 wx) := p194); clear p194; clear hold hdep; go_simp; exact hK.out _ _ rfl (Below.refl _ _)
                      · intro a wx hB hold hdep K hK
                        obtain ⟨v176, t176, p176⟩ := hdep 0 rfl _ 176 rfl rfl; have e176 : v176 = (.slice (some ⟨OUT, 0, none⟩) N N) := p176; subst e176; obtain ⟨v177, t177, p177⟩ := hdep 1 rfl _ 177 rfl rfl; have e177 : v177 = (.int .i64 (i : Nat)) := p177; subst e177; clear hold hdep; go_simp; exact hK.out _ _ rfl (Below.refl _ _)
                    · intro a wx hB hold hgot K hK
                      (obtain ⟨vS, tvS, pvS⟩ := hgot 19 _ 195 (by omega) rfl rfl); have evS : vS = (.bool true) := pvS; subst evS; (obtain ⟨vP, tvP, pvP⟩ := hgot 20 _ 196 (by omega) rfl rfl); have evP : vP = (.pointer (some ⟨OUT, i, none⟩)) := pvP; subst evP; have a0 := blk_cell (below_keep hB HA2.out) i; rw [outS_get HI.out] at a0; have a1 := blk_fz (below_keep hB HA2.out) i; obtain ⟨tm, df⟩ := a; (obtain ⟨ys, hys, htm, rfl⟩ := frame_mid2 176 21 (by kernel_rfl) (Nat.le_of_ble_eq_true rfl) hold); obtain ⟨x176, x177, x178, x179, x180, x181, x182, x183, x184, x185, x186, x187, x188, x189, x190, x191, x192, x193, x194, x195, x196, rfl⟩ := rowA21 ys hys; simp only [List.take_succ_cons, List.take_zero, List.drop_succ_cons, List.drop_zero, List.cons_append, List.nil_append] at htm; subst htm; obtain rfl : x195 = _ := someInjM tvS; obtain rfl : x196 = _ := someInjM tvP; clear hys hold hgot tvS tvP; go_simp; refine hK.out _ _ ?_; clear hK a0 a1; obtain ⟨Y, hY⟩ : ∃ Y, Y = wx.setCell ⟨OUT, i, none⟩ (.bool true) := ⟨_, rfl⟩
                      have HY1 : Hid (Y.heap[OUT]? = some (.cells ((outC N i T).setIfInBounds i (.bool ((SX.take (q + 1)).any K0))) 4 (0, 0))) := by
                        (rw [hY, show (SX.take (q + 1)).any K0 = true from HTk.out.trans (by simp)]); exact outC_put2 (below_keep hB HA2.out)
                      (have HY2 : Hid (Below w1.heap.size w1 Y) := by rw [hY]; exact (below_join HB2.out hB).setCell (p := ⟨OUT, i, none⟩) (by have := HO.out; simp; omega) _); (have HY3 : Hid (Far OUT R0 Y) := by rw [hY]; exact (HFa2.out.below hB).set _ _); rw [← hY]; clear hY; go_wp2_with fail
                      go_roundg (SX.length - (q + 1))
                      case measure => have := HGq.out; have := HQ.out; omega
                      case rel => exact ⟨q + 1, HQ.out, rfl, by go_num, HY1, HY2, HY3⟩
                  | false =>
                    (refine wp_region_last (by kernel_rfl) [fun v _ => v = (.slice (some ⟨OUT, 0, none⟩) N N), fun v _ => v = (.int .i64 (i : Nat)), fun v _ => v = (.slice (some ⟨OUT, 0, none⟩) N N), fun v _ => v = (.int .i64 (i : Nat)), fun v _ => v = (.pointer (some ⟨OUT, i, none⟩)), fun v _ => v = (.bool false), fun v _ => v = (.bool false), fun v _ => v = (.slice (some ⟨kb, 0, none⟩) 1 cp), fun v _ => v = (.pointer (some ⟨kb, 0, none⟩)), fun v _ => v = (.slice (some ⟨g0, 0, none⟩) N N), fun v _ => v = (.slice (some ⟨g, 0, none⟩) N N), fun v _ => v = (.int .i64 (i : Nat)), fun v _ => v = (.pointer (some ⟨g, i, none⟩)), fun v _ => v = (.slice (some ⟨bs, 0, none⟩) SX.length sc), fun v _ => v = (.int .i64 (q : Nat)), fun v _ => v = (.pointer (some ⟨bs, q, none⟩)), fun v _ => v = (.int .i64 (nv : Nat)), fun v _ => v = (.pointer (some ⟨g0, nv, none⟩)), fun v _ => v = (.bool y), fun v _ => v = (.bool y), fun v _ => v = (.pointer (some ⟨OUT, i, none⟩))] ?_ (by kernel_rfl) (by kernel_rfl) 198 rfl (by kernel_rfl) 21 _ rfl rfl (by kernel_rfl) ?_ ?_)
                    · intro p hp
                      simp only [List.mem_cons, List.not_mem_nil, or_false] at hp
                      rcases hp with rfl | rfl | rfl | rfl | rfl | rfl | rfl | rfl | rfl | rfl | rfl | rfl | rfl | rfl | rfl | rfl | rfl | rfl | rfl | rfl | rfl
                      · exact fun _ _ _ h _ => h
                      · exact fun _ _ _ h _ => h
                      · exact fun _ _ _ h _ => h
                      · exact fun _ _ _ h _ => h
                      · exact fun _ _ _ h _ => h
                      · exact fun _ _ _ h _ => h
                      · exact fun _ _ _ h _ => h
                      · exact fun _ _ _ h _ => h
                      · exact fun _ _ _ h _ => h
                      · exact fun _ _ _ h _ => h
                      · exact fun _ _ _ h _ => h
                      · exact fun _ _ _ h _ => h
                      · exact fun _ _ _ h _ => h
                      · exact fun _ _ _ h _ => h
                      · exact fun _ _ _ h _ => h
                      · exact fun _ _ _ h _ => h
                      · exact fun _ _ _ h _ => h
                      · exact fun _ _ _ h _ => h
                      · exact fun _ _ _ h _ => h
                      · exact fun _ _ _ h _ => h
                      · exact fun _ _ _ h _ => h
                    · refine ⟨?_, ?_, ?_, ?_, ?_, ?_, ?_, ?_, ?_, ?_, ?_, ?_, ?_, ?_, ?_, ?_, ?_, ?_, ?_, ?_, ?_, trivial⟩
                      · intro a wx hB hold hdep K hK
                        have t6 : a.tmps[6]? = some (.slice (some ⟨OUT, 0, none⟩) N N) := hold.2.2 6 rfl; clear hold hdep; go_simp; exact hK.out _ _ rfl (Below.refl _ _)
                      · intro a wx hB hold hdep K hK
                        have t9 : a.tmps[9]? = some (.int .i64 (i : Nat)) := hold.2.2 9 rfl; clear hold hdep; go_simp; exact hK.out _ _ rfl (Below.refl _ _)
                      · intro a wx hB hold hdep K hK
                        have t6 : a.tmps[6]? = some (.slice (some ⟨OUT, 0, none⟩) N N) := hold.2.2 6 rfl; clear hold hdep; go_simp; exact hK.out _ _ rfl (Below.refl _ _)
                      · intro a wx hB hold hdep K hK
                        have t9 : a.tmps[9]? = some (.int .i64 (i : Nat)) := hold.2.2 9 rfl; clear hold hdep; go_simp; exact hK.out _ _ rfl (Below.refl _ _)
                      · intro a wx hB hold hdep K hK
                        obtain ⟨v178, t178, p178⟩ := hdep 2 rfl _ 178 rfl rfl; have e178 : v178 = (.slice (some ⟨OUT, 0, none⟩) N N) := p178; subst e178; obtain ⟨v179, t179, p179⟩ := hdep 3 rfl _ 179 rfl rfl; have e179 : v179 = (.int .i64 (i : Nat)) := p179; subst e179; clear hold hdep; go_simp; exact hK.out _ _ rfl (Below.refl _ _)
                      · intro a wx hB hold hdep K hK
                        obtain ⟨v180, t180, p180⟩ := hdep 4 rfl _ 180 rfl rfl; have e180 : v180 = (.pointer (some ⟨OUT, i, none⟩)) := p180; subst e180; have c9 := blk_cell (below_keep hB HA2.out) i; rw [outS_get HI.out] at c9; clear hold hdep; go_simp; exact hK.out _ _ rfl (Below.refl _ _)
                      · intro a wx hB hold hdep K hK
                        obtain ⟨v181, t181, p181⟩ := hdep 5 rfl _ 181 rfl rfl; have e181 : v181 = (.bool false) := p181; subst e181; clear hold hdep; go_simp; exact hK.out _ _ rfl (Below.refl _ _)
                      · intro a wx hB hold hdep K hK
                        obtain ⟨v182, t182, p182⟩ := hdep 6 rfl _ 182 rfl rfl; have e182 : v182 = (.bool false) := p182; subst e182; have t7 : a.tmps[7]? = some (.slice (some ⟨kb, 0, none⟩) 1 cp) := hold.2.2 7 rfl; clear hold hdep; go_simp; exact hK.out _ _ rfl (Below.refl _ _)
                      · intro a wx hB hold hdep K hK
                        obtain ⟨v182, t182, p182⟩ := hdep 6 rfl _ 182 rfl rfl; have e182 : v182 = (.bool false) := p182; subst e182; obtain ⟨v183, t183, p183⟩ := hdep 7 rfl _ 183 rfl rfl; have e183 : v183 = (.slice (some ⟨kb, 0, none⟩) 1 cp) := p183; subst e183; clear hold hdep; go_simp; exact hK.out _ _ rfl (Below.refl _ _)
                      · intro a wx hB hold hdep K hK
                        obtain ⟨v182, t182, p182⟩ := hdep 6 rfl _ 182 rfl rfl; have e182 : v182 = (.bool false) := p182; subst e182; obtain ⟨v184, t184, p184⟩ := hdep 8 rfl _ 184 rfl rfl; have e184 : v184 = (.pointer (some ⟨kb, 0, none⟩)) := p184; subst e184; have c9 := (hB.cell (lt_of_cell HD3.out)).trans HD3.out; clear hold hdep; go_simp; exact hK.out _ _ rfl (Below.refl _ _)
                      · intro a wx hB hold hdep K hK
                        obtain ⟨v182, t182, p182⟩ := hdep 6 rfl _ 182 rfl rfl; have e182 : v182 = (.bool false) := p182; subst e182; have t5 : a.tmps[5]? = some (.slice (some ⟨g, 0, none⟩) N N) := hold.2.2 5 rfl; clear hold hdep; go_simp; exact hK.out _ _ rfl (Below.refl _ _)
                      · intro a wx hB hold hdep K hK
                        obtain ⟨v182, t182, p182⟩ := hdep 6 rfl _ 182 rfl rfl; have e182 : v182 = (.bool false) := p182; subst e182; have t9 : a.tmps[9]? = some (.int .i64 (i : Nat)) := hold.2.2 9 rfl; clear hold hdep; go_simp; exact hK.out _ _ rfl (Below.refl _ _)
                      · intro a wx hB hold hdep K hK
                        obtain ⟨v182, t182, p182⟩ := hdep 6 rfl _ 182 rfl rfl; have e182 : v182 = (.bool false) := p182; subst e182; obtain ⟨v186, t186, p186⟩ := hdep 10 rfl _ 186 rfl rfl; have e186 : v186 = (.slice (some ⟨g, 0, none⟩) N N) := p186; subst e186; obtain ⟨v187, t187, p187⟩ := hdep 11 rfl _ 187 rfl rfl; have e187 : v187 = (.int .i64 (i : Nat)) := p187; subst e187; clear hold hdep; go_simp; exact hK.out _ _ rfl (Below.refl _ _)
                      · intro a wx hB hold hdep K hK
                        obtain ⟨v182, t182, p182⟩ := hdep 6 rfl _ 182 rfl rfl; have e182 : v182 = (.bool false) := p182; subst e182; obtain ⟨v188, t188, p188⟩ := hdep 12 rfl _ 188 rfl rfl; have e188 : v188 = (.pointer (some ⟨g, i, none⟩)) := p188; subst e188; have c9 := (hB.cell (lt_of_cell HD1.out)).trans HD1.out; clear hold hdep; go_simp; exact hK.out _ _ rfl (Below.refl _ _)
                      · intro a wx hB hold hdep K hK
                        obtain ⟨v182, t182, p182⟩ := hdep 6 rfl _ 182 rfl rfl; have e182 : v182 = (.bool false) := p182; subst e182; have t11 : a.tmps[11]? = some (.int .i64 (q : Nat)) := hold.2.2 11 rfl; clear hold hdep; go_simp; exact hK.out _ _ rfl (Below.refl _ _)
                      · intro a wx hB hold hdep K hK
                        obtain ⟨v182, t182, p182⟩ := hdep 6 rfl _ 182 rfl rfl; have e182 : v182 = (.bool false) := p182; subst e182; obtain ⟨v189, t189, p189⟩ := hdep 13 rfl _ 189 rfl rfl; have e189 : v189 = (.slice (some ⟨bs, 0, none⟩) SX.length sc) := p189; subst e189; obtain ⟨v190, t190, p190⟩ := hdep 14 rfl _ 190 rfl rfl; have e190 : v190 = (.int .i64 (q : Nat)) := p190; subst e190; clear hold hdep; go_simp; exact hK.out _ _ rfl (Below.refl _ _)
                      · intro a wx hB hold hdep K hK
                        obtain ⟨v182, t182, p182⟩ := hdep 6 rfl _ 182 rfl rfl; have e182 : v182 = (.bool false) := p182; subst e182; obtain ⟨v191, t191, p191⟩ := hdep 15 rfl _ 191 rfl rfl; have e191 : v191 = (.pointer (some ⟨bs, q, none⟩)) := p191; subst e191; have c9 := (hB.cell (lt_of_cell HD2.out)).trans HD2.out; clear hold hdep; go_simp; exact hK.out _ _ rfl (Below.refl _ _)
                      · intro a wx hB hold hdep K hK
                        obtain ⟨v182, t182, p182⟩ := hdep 6 rfl _ 182 rfl rfl; have e182 : v182 = (.bool false) := p182; subst e182; obtain ⟨v185, t185, p185⟩ := hdep 9 rfl _ 185 rfl rfl; have e185 : v185 = (.slice (some ⟨g0, 0, none⟩) N N) := p185; subst e185; obtain ⟨v192, t192, p192⟩ := hdep 16 rfl _ 192 rfl rfl; have e192 : v192 = (.int .i64 (nv : Nat)) := p192; subst e192; clear hold hdep; go_simp; exact hK.out _ _ rfl (Below.refl _ _)
                      · intro a wx hB hold hdep K hK
                        obtain ⟨v182, t182, p182⟩ := hdep 6 rfl _ 182 rfl rfl; have e182 : v182 = (.bool false) := p182; subst e182; obtain ⟨v193, t193, p193⟩ := hdep 17 rfl _ 193 rfl rfl; have e193 : v193 = (.pointer (some ⟨g0, nv, none⟩)) := p193; subst e193; have c9 := (hB.cell (lt_of_cell HD4.out)).trans HD4.out; clear hold hdep; go_simp; exact hK.out _ _ rfl (Below.refl _ _)
                      · intro a wx hB hold hdep K hK
                        obtain ⟨v182, t182, p182⟩ := hdep 6 rfl _ 182 rfl rfl; have e182 : v182 = (.bool false) := p182; subst e182; obtain ⟨v194, t194, p194⟩ := hdep 18 rfl _ 194 rfl rfl; have e194 : v194 = (.bool y) := p194; subst e194; clear hold hdep; go_simp; exact hK.out _ _ rfl (Below.refl _ _)
                      · intro a wx hB hold hdep K hK
                        obtain ⟨v176, t176, p176⟩ := hdep 0 rfl _ 176 rfl rfl; have e176 : v176 = (.slice (some ⟨OUT, 0, none⟩) N N) := p176; subst e176; obtain ⟨v177, t177, p177⟩ := hdep 1 rfl _ 177 rfl rfl; have e177 : v177 = (.int .i64 (i : Nat)) := p177; subst e177; clear hold hdep; go_simp; exact hK.out _ _ rfl (Below.refl _ _)
                    · intro a wx hB hold hgot K hK
                      (obtain ⟨vS, tvS, pvS⟩ := hgot 19 _ 195 (by omega) rfl rfl); have evS : vS = (.bool y) := pvS; subst evS; (obtain ⟨vP, tvP, pvP⟩ := hgot 20 _ 196 (by omega) rfl rfl); have evP : vP = (.pointer (some ⟨OUT, i, none⟩)) := pvP; subst evP; have a0 := blk_cell (below_keep hB HA2.out) i; rw [outS_get HI.out] at a0; have a1 := blk_fz (below_keep hB HA2.out) i; obtain ⟨tm, df⟩ := a; (obtain ⟨ys, hys, htm, rfl⟩ := frame_mid2 176 21 (by kernel_rfl) (Nat.le_of_ble_eq_true rfl) hold); obtain ⟨x176, x177, x178, x179, x180, x181, x182, x183, x184, x185, x186, x187, x188, x189, x190, x191, x192, x193, x194, x195, x196, rfl⟩ := rowA21 ys hys; simp only [List.take_succ_cons, List.take_zero, List.drop_succ_cons, List.drop_zero, List.cons_append, List.nil_append] at htm; subst htm; obtain rfl : x195 = _ := someInjM tvS; obtain rfl : x196 = _ := someInjM tvP; clear hys hold hgot tvS tvP; go_simp; refine hK.out _ _ ?_; clear hK a0 a1; obtain ⟨Y, hY⟩ : ∃ Y, Y = wx.setCell ⟨OUT, i, none⟩ (.bool y) := ⟨_, rfl⟩
                      have HY1 : Hid (Y.heap[OUT]? = some (.cells ((outC N i T).setIfInBounds i (.bool ((SX.take (q + 1)).any K0))) 4 (0, 0))) := by
                        (rw [hY, show (SX.take (q + 1)).any K0 = y from HTk.out.trans (by simp)]); exact outC_put2 (below_keep hB HA2.out)
                      (have HY2 : Hid (Below w1.heap.size w1 Y) := by rw [hY]; exact (below_join HB2.out hB).setCell (p := ⟨OUT, i, none⟩) (by have := HO.out; simp; omega) _); (have HY3 : Hid (Far OUT R0 Y) := by rw [hY]; exact (HFa2.out.below hB).set _ _); rw [← hY]; clear hY; go_wp2_with fail
                      go_roundg (SX.length - (q + 1))
                      case measure => have := HGq.out; have := HQ.out; omega
                      case rel => exact ⟨q + 1, HQ.out, rfl, by go_num, HY1, HY2, HY3⟩
                · have hqq : q = SX.length := by omega
                  subst hqq; (have hge : ¬ (SX.length : Int) < (SX.length : Int) := by omega); rw [List.take_length] at HA2; clear hlt hq; go_wp2_with fail
                  go_roundg (N - (i + 1))
                  case measure => have := HGk.out; have := HI.out; omega
                  case rel => exact ⟨i + 1, HI.out, rfl, by go_num, by have := HA2.out; rw [← HTe.out, outC_set] at this; exact this, HB2, HFa2⟩
            · have hii : N = i := by omega
              subst hii; (have hge : ¬ (N : Int) < (N : Int) := by omega); clear hlt hi; go_wp2_with fail; go_ret; (exact ⟨OUT, rfl, by have := HO.out; have := HB1.out.size; omega, HA.out, below_join HB1.out HB.out⟩)
      · cases e
        clear hg hg'
        rcases hk with rfl | rfl | rfl
        · exact absurd HCs.out (by decide)
        · exact absurd HCs.out (by decide)
        · exact absurd HCs.out (by decide)
end Go.Proofs.Ytmahgfgndfcmpag
/- Walks: is a number in a list, by the yardstick? -/
namespace Go.Proofs.Ytmahgfgndfcmpag
open Go.RowKit Go.Sort

/-- A row of numbers in memory. -/
def NRow (w : World) (v : Value) (L : List Nat) : Prop := ∃ ad cp, v = .slice ad L.length cp ∧ L.length ≤ cp ∧ (0 < L.length → ∃ b, ad = some ⟨b, 0, none⟩ ∧ ∀ (j k : Nat), L[j]? = some k → w.cell? ⟨b, j, none⟩ = some (.int .i64 (k : Nat)))
theorem NRow.up {B : Nat} {w w' : World} {v : Value} {L : List Nat} (h : NRow w v L) (hb : Below B w w') (hB : w.heap.size ≤ B) : NRow w' v L := by
  obtain ⟨ad, cp, e, h1, h2⟩ := h; (refine ⟨ad, cp, e, h1, fun hp => ?_⟩); obtain ⟨b, e2, h3⟩ := h2 hp; (exact ⟨b, e2, fun j k hj => (hb.cell (Nat.lt_of_lt_of_le (lt_of_cell (h3 j k hj)) hB)).trans (h3 j k hj)⟩)
set_option maxHeartbeats 1000000 in
theorem memberOf_any (L : List Nat) (x : Nat) (h40 : L.length ≤ 40) (v : Value) (w : World) (h : NRow w v L) :
    Calls Try.prog 44 #[v, .int .i64 (x : Nat)] w fun e w' => e = .returned (.bool (decide (x ∈ L))) ∧ w' = w := by
  obtain ⟨ad, cap, rfl, h1, h3⟩ := h; (have hlI : (L.length : Int) ≤ 40 := by omega); have H3 : Hid (0 < L.length → ∃ b, ad = some ⟨b, 0, none⟩ ∧ ∀ (j k : Nat), L[j]? = some k → w.cell? ⟨b, j, none⟩ = some (.int .i64 (k : Nat))) := h3; clear h3
  go_enter Try.func44, Try.ntmps44
  go_wp2_with fail
  go_loopg [5] L.length (fun g c wr => ∃ i, i ≤ L.length ∧ g = L.length - i ∧ c = .int .i64 (i : Nat) ∧ wr = w ∧ Hid (x ∉ L.take i))
  case atStart => exact ⟨0, by omega, by omega, rfl, rfl, by show _ ∉ _; simp⟩
  case round =>
    obtain ⟨i, hi, hg, rfl, rfl, HN⟩ := hrel; have HG : Hid (gk = L.length - i) := hg; clear hg; by_cases hlt : i < L.length
    · obtain ⟨y, hx⟩ : ∃ y, L[i]? = some y := ⟨_, List.getElem?_eq_getElem hlt⟩
      (obtain ⟨g, rfl, hc⟩ := H3.out (by omega)); have g0 := hc i y hx; (have hltI : (i : Int) < (L.length : Int) := by omega); (have hlc : (i : Int) < (cap : Int) := by omega); have HX : Hid (L[i]? = some y) := hx; clear hc hx H3; by_cases hxt : y = x
      · subst hxt
        have HD : Hid (decide (y ∈ L) = true) := by
          show _ = _; exact decide_eq_true (List.mem_of_getElem? HX.out)
        go_wp2_with fail; go_ret; (exact ⟨by rw [HD.out]; rfl, rfl⟩)
      · have hne : ¬ ((y : Nat) : Int) = ((x : Nat) : Int) := by omega
        (have hne2 : (((y : Nat) : Int) == ((x : Nat) : Int)) = false := by rw [beq_eq_false_iff_ne]; exact hne)
        have HNN : Hid (x ∉ L.take (i + 1)) := by
          show _ ∉ _; rw [List.take_add_one, HX.out]; intro hm
          rcases List.mem_append.1 hm with h | h
          · exact HN.out h
          · simp at h; exact hxt h.symm
        clear HX; go_wp2_with fail
        go_roundg (L.length - (i + 1))
        case measure => have := HG.out; omega
        case rel => exact ⟨i + 1, by omega, rfl, by go_num, rfl, HNN⟩
    · obtain rfl : i = L.length := by omega
      (have hge : ¬ (L.length : Int) < (L.length : Int) := by omega)
      have HD : Hid (decide (x ∈ L) = false) := by
        show _ = _; have := HN.out; rw [List.take_length] at this; exact decide_eq_false this
      go_wp2_with fail; go_ret; (exact ⟨by rw [HD.out]; rfl, rfl⟩)
end Go.Proofs.Ytmahgfgndfcmpag
