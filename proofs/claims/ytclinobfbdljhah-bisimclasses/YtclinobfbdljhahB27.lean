/- Texts of one proof, one behind the other: MS4, MS6, MA1, SB8. -/
import Derived.Test.YtclinobfbdljhahB26
import Derived.Test.YtclinobfbdljhahB13
import Derived.Test.YtclinobfbdljhahB16
import Derived.Laws.BitsLemmas
import Derived.Deep.RegionHeld3
import Derived.Test.YtclinobfbdljhahB18
import Derived.RegionTactic
import Derived.Test.YtclinobfbdljhahB17
import Derived.Test.YtclinobfbdljhahB10
import Derived.Test.YtclinobfbdljhahB14
import Derived.Test.YtclinobfbdljhahB22
/- Walks: what is so of all worlds, and of all with those that they see. -/
namespace Go.Proofs.Ytclinobfbdljhah
open Go.RowKit Go.Sort

/-- Numbers in memory. -/
def NL (w : World) (v : Value) (l : List Nat) : Prop := ∃ ad cap, v = .slice ad l.length cap ∧ l.length ≤ cap ∧ cap ≤ maxLen ∧ (l ≠ [] → ∃ b, ad = some ⟨b, 0, none⟩ ∧ ∀ (j n : Nat), l[j]? = some n → w.cell? ⟨b, j, none⟩ = some (.int .i64 (n : Nat)))
theorem NL.up {w w' : World} {v : Value} {l : List Nat} (h : NL w v l) (hb : Below w.heap.size w w') : NL w' v l := by
  obtain ⟨ad, cap, h1, h2, h3, h4⟩ := h; (refine ⟨ad, cap, h1, h2, h3, fun hne => ?_⟩); obtain ⟨b, h5, h6⟩ := h4 hne; (exact ⟨b, h5, fun j n hj => (hb.cell (lt_of_cell (h6 j n hj))).trans (h6 j n hj)⟩)
def memTo (P : Nat → Bool) (i : Nat) : List Nat := (List.range i).filter P
theorem memTo_succ (P : Nat → Bool) (i : Nat) : memTo P (i + 1) = if P i = true then memTo P i ++ [i] else memTo P i := by
  rw [memTo, List.range_succ, List.filter_append, memTo]; (by_cases h : P i = true <;> simp [h])
theorem memTo_len (P : Nat → Bool) (i : Nat) : (memTo P i).length ≤ i := by
  have := List.length_filter_le P (List.range i)
  rwa [List.length_range] at this
set_option maxRecDepth 10000 in
set_option maxHeartbeats 4000000 in
theorem set_members {N : Nat} (hN : N ≤ 40) (P : Nat → Bool) (w : World) :
    Calls Try.prog 75 #[.int .u64 (bm N P : Nat), .int .i64 (N : Nat)] w fun e w' => ∃ x, e = .returned x ∧ NL w' x (memTo P N) ∧ Below w.heap.size w w' := by
  (have hNI : (N : Int) ≤ 40 := by omega); (have HH : Hid (∀ n, n < N → ∀ w, Calls Try.prog 61 #[.int .u64 (bm N P : Nat), .int .i64 (n : Nat)] w fun e w' => e = .returned (.bool (P n)) ∧ w' = w) := fun n hn w => set_has hN P n hn w); have HN : Hid (N ≤ 40) := hN; generalize bm N P = s at *; clear hN
  go_enter Try.func75, Try.ntmps75
  go_wp2_with fail
  go_loopg [8, 5] N (fun gg cc x wr => ∃ i ad cp, i ≤ N ∧ gg = N - i ∧ cc = .int .i64 (i : Nat) ∧ x = .slice ad (memTo P i).length cp ∧ Hid (wr.ownsRow w.heap.size 3 1 (.slice ad (memTo P i).length cp) (memTo P i).length ((memTo P i).map encI)) ∧ Hid (Below w.heap.size w wr))
  case atStart => exact ⟨0, none, 0, by omega, by omega, rfl, rfl, ⟨rfl, Or.inl ⟨rfl, rfl⟩⟩, Below.refl _ _⟩
  case round =>
    obtain ⟨i, ad, cp, hi, hg, rfl, rfl, HOw, HB⟩ := hrel; have HGk : Hid (gk = N - i) := hg; clear hg; by_cases hlt : i < N
    · have hltI : (i : Int) < (N : Int) := by omega
      have HI : Hid (i < N) := hlt; (have HSc : Hid (memTo P (i + 1) = if P i = true then memTo P i ++ [i] else memTo P i) := memTo_succ P i); have HLn : Hid ((memTo P i).length ≤ i) := memTo_len P i; generalize memTo P i = LL at *; (have hlnI : (LL.length : Int) ≤ 40 := by have := HLn.out; have := HN.out; omega); clear hlt hi; go_wp2_with fail; refine (HH.out i HI.out wr).mono ?_; rintro _ w9 ⟨rfl, e9⟩
      replace e9 := e9.symm
      subst e9; by_cases hp : P i = true
      · rw [hp] at HSc ⊢
        obtain ⟨i0, hi0, hz0, hz1, hz2⟩ := infoI9; clear hp
        go_wp2_with (first
          | (at_builtin
             have hsz := HB.out.size; have hlm := HLn.out; have hnm := HN.out; have hil := HI.out; have hown := rowM_up HOw.out ((Below.refl _ wr).alloc (Nat.le_refl _) (.cells #[.int .i64 (i : Nat)] 3 (0, 0))); (refine wpList_append_lies _ rfl _ _ 45 rfl w.heap.size 3 i0 (.int .i64 0) 1 8 Try.underlying45 hi0 hz0 hz1 hz2 rfl (by decide) (.slice ad LL.length cp) LL.length (LL.map encI) rfl hown ⟨wr.heap.size, 0, none⟩ 1 1 [.int .i64 (i : Nat)] rfl rfl ?_ ?_ (by omega) (by unfold maxLen; omega) (by omega) (by simp; omega) _ rfl ?_)
             · intro j u hu
               rw [add_none, Nat.zero_add, blk_cell (blk_new wr _)]; simpa using hu
             · intro u hu
               simp at hu; subst hu; rfl
             intro g3 cp3 w3 hown3 hgrow hat hlt3; have hgrow' : (wr.alloc (.cells #[.int .i64 (i : Nat)] 3 (0, 0))).grownBy w3 (Value.slice ad LL.length cp).ownBlock := hgrow; have hlt' := HOw.out.lt; (have HB3 : Hid (Below w.heap.size w w3) := ((HB.out.alloc hsz _).grown hgrow' (by simp; omega) fun k hk => by have := (hlt' k hk).1; omega)); have HOw3 : Hid (w3.ownsRow w.heap.size 3 1 (.slice (some ⟨g3, 0, none⟩) (LL.length + 1) cp3) (LL.length + 1) (LL.map encI ++ [.int .i64 (i : Nat)])) := hown3
             clear hgrow hgrow' hat hown3 hown hlt' hsz hlt3 hi0 hz0 hz1 hz2 hlm hnm hil)
          | fail)
        (have HSc9 : memTo P (i + 1) = LL ++ [i] := by rw [HSc.out]; rfl); (have hl9 : (memTo P (i + 1)).length = LL.length + 1 := by rw [HSc9]; simp)
        go_roundg (N - (i + 1))
        case measure => have := HGk.out; have := HI.out; omega
        case rel =>
          (refine ⟨i + 1, some ⟨g3, 0, none⟩, cp3, HI.out, rfl, by go_num, by rw [hl9], ?_, HB3⟩); rw [hl9, HSc9, List.map_append]; exact HOw3
      · have hpf : P i = false := by simpa using hp
        rw [hpf] at HSc ⊢; clear hp hpf; go_wp2_with fail; (have HSc9 : memTo P (i + 1) = LL := by rw [HSc.out]; rfl)
        go_roundg (N - (i + 1))
        case measure => have := HGk.out; have := HI.out; omega
        case rel => exact ⟨i + 1, ad, cp, HI.out, rfl, by go_num, by rw [HSc9], by rw [HSc9]; exact HOw, HB⟩
    · have hii : N = i := by omega
      subst hii; (have hge : ¬ (N : Int) < (N : Int) := by omega); clear hlt hi; go_wp2_with fail; go_ret; obtain ⟨c1, c2⟩ := rowM_caps HOw.out; (refine ⟨_, rfl, ⟨ad, cp, rfl, c1, c2, fun hne => ?_⟩, HB.out⟩); obtain ⟨b, rfl, hc⟩ := rowM_cells HOw.out (List.length_pos_iff.2 hne); (refine ⟨b, rfl, fun j m hj => ?_⟩); (have := hc j (encI m) (by rw [List.getElem?_map, hj]; rfl))
      rwa [Nat.zero_add] at this
end Go.Proofs.Ytclinobfbdljhah
/- Walks: modal.Shape. -/
namespace Go.Proofs.Ytclinobfbdljhah
open Go.RowKit

theorem wfirst_two : ∀ (ls : List (List (List UInt8))) (i : Nat), (wfirst ls i).1 = 0 → (wfirst ls i).2 = 0
  | [], _, _ => rfl
  | l :: ls, i, h => by
    rw [wfirst] at h ⊢
    split at h
    · rename_i h0
      rw [if_pos h0]; exact wfirst_two ls (i + 1) h
    · rename_i h0
      exact absurd h h0
theorem mdcode_two {W P : Int} {m : Mdl} (h0 : (mdcode W P m).1 = 0) : mdcode W P m = (0, 0) := by
  refine Prod.ext h0 ?_; unfold mdcode at h0 ⊢
  split at h0
  · cases h0
  rename_i h1
  rw [if_neg h1]
  split at h0
  · cases h0
  rename_i h2
  rw [if_neg h2]
  split at h0
  · cases h0
  rename_i h3
  rw [if_neg h3]; exact wfirst_two _ _ h0
end Go.Proofs.Ytclinobfbdljhah
/- Walks: at which worlds a formula is true, by the yardstick. -/
namespace Go.Proofs.Ytclinobfbdljhah
open Go.RowKit Go.Sort

theorem infoBs : ∃ i, Try.prog.info? 54 = some i ∧ i.zero = some (.slice none 0 0) ∧ i.size = 1 ∧ i.bytes = 24 := by
  (obtain ⟨i, hi, h⟩ := Option.map_eq_some_iff.1 (show (Try.prog.info? 54).map (fun i => (i.zero, i.size, i.bytes)) = some (some (.slice none 0 0), 1, 24) by kernel_rfl)); simp only [Prod.mk.injEq] at h; exact ⟨i, hi, h.1, h.2.1, h.2.2⟩
/-- The list as far as it is told. -/
def outC (N i : Nat) (T : Nat → Bool) : Array Value := ((List.range N).map fun q => Value.bool (decide (q < i) && T q)).toArray
theorem outC_size (N i : Nat) (T : Nat → Bool) : (outC N i T).size = N := by simp [outC]
theorem outC_get {N i q : Nat} {T : Nat → Bool} (h : q < N) : (outC N i T)[q]? = some (.bool (decide (q < i) && T q)) := by simp [outC, h]
theorem outC_zero (N : Nat) (T : Nat → Bool) : madeCells #[Value.bool false] N = outC N 0 T := by
  apply Array.ext'; rw [toList_madeCells_one]; simp [outC, List.map_const']
theorem outC_set {N i : Nat} {T : Nat → Bool} : (outC N i T).setIfInBounds i (.bool (T i)) = outC N (i + 1) T := by
  apply Array.ext_getElem?; intro j; by_cases hj : j < N
  · rw [outC_get hj]
    by_cases e : i = j
    · subst e
      (rw [Array.getElem?_setIfInBounds_self_of_lt (by rw [outC_size]; exact hj)])
      simp
    · rw [Array.getElem?_setIfInBounds_ne e, outC_get hj]
      (have : decide (j < i + 1) = decide (j < i) := by rw [decide_eq_decide]; omega); rw [this]
  · rw [Array.getElem?_eq_none (by simp [outC_size]; omega), Array.getElem?_eq_none (by simp [outC_size]; omega)]
theorem outC_keep {N i : Nat} {T : Nat → Bool} (h : T i = false) : outC N i T = outC N (i + 1) T := by
  apply Array.ext_getElem?; intro j; by_cases hj : j < N
  · rw [outC_get hj, outC_get hj]
    by_cases e : i = j
    · subst e; simp [h]
    · have : decide (j < i + 1) = decide (j < i) := by rw [decide_eq_decide]; omega
      rw [this]
  · rw [Array.getElem?_eq_none (by simp [outC_size]; omega), Array.getElem?_eq_none (by simp [outC_size]; omega)]
theorem outC_full {N q : Nat} {T : Nat → Bool} (h : q < N) : (outC N N T)[q]? = some (.bool (T q)) := by rw [outC_get h]; simp [h]
theorem outC_off {N i : Nat} {T : Nat → Bool} : outC N i T = (outC N i T).setIfInBounds i (.bool false) := by
  apply Array.ext_getElem?; intro j; by_cases e : i = j
  · subst e
    by_cases hj : i < N
    · rw [Array.getElem?_setIfInBounds_self_of_lt (by rw [outC_size]; exact hj), outC_get hj]
      simp
    · rw [Array.getElem?_eq_none (by simp [outC_size]; omega), Array.getElem?_eq_none (by simp [outC_size]; omega)]
  · rw [Array.getElem?_setIfInBounds_ne e]
theorem outS_get {N i : Nat} {T : Nat → Bool} {b : Bool} (h : i < N) : ((outC N i T).setIfInBounds i (.bool b))[i]? = some (.bool b) := by
  (rw [Array.getElem?_setIfInBounds_self_of_lt (by rw [outC_size]; exact h)])
theorem outS_set {N i : Nat} {T : Nat → Bool} {b c : Bool} : ((outC N i T).setIfInBounds i (.bool b)).setIfInBounds i (.bool c) = (outC N i T).setIfInBounds i (.bool c) := by
  apply Array.ext_getElem?; intro j; by_cases e : i = j
  · subst e
    by_cases hj : i < N
    · rw [Array.getElem?_setIfInBounds_self_of_lt (by simp [outC_size]; exact hj), outS_get hj]
    · rw [Array.getElem?_eq_none (by simp [outC_size]; omega), Array.getElem?_eq_none (by simp [outC_size]; omega)]
  · rw [Array.getElem?_setIfInBounds_ne e, Array.getElem?_setIfInBounds_ne e, Array.getElem?_setIfInBounds_ne e]
def encB (N b : Nat) : Value := .slice (some ⟨b, 0, none⟩) N N
/-- Kids' lists in memory. -/
def KbS (B : Nat) (w : World) (N : Nat) (gs : List Nat) (Ks : List (Nat → Bool)) : Prop := gs.length = Ks.length ∧ ∀ (j b : Nat) (K : Nat → Bool), gs[j]? = some b → Ks[j]? = some K → B < b ∧ w.heap[b]? = some (.cells (outC N N K) 4 (0, 0))
theorem KbS.move {B : Nat} {w w' : World} {N : Nat} {gs : List Nat} {Ks : List (Nat → Bool)} (h : KbS B w N gs Ks) (hk : ∀ (b : Nat) (cur : Array Value), w.heap[b]? = some (Obj.cells cur 4 (0, 0)) → w'.heap[b]? = w.heap[b]?) : KbS B w' N gs Ks :=
  ⟨h.1, fun j b K h1 h2 => ⟨(h.2 j b K h1 h2).1, (hk b _ (h.2 j b K h1 h2).2).trans (h.2 j b K h1 h2).2⟩⟩
theorem KbS.snoc {B : Nat} {w : World} {N : Nat} {gs : List Nat} {Ks : List (Nat → Bool)} {g : Nat} {K : Nat → Bool} (h : KbS B w N gs Ks) (h1 : B < g) (h2 : w.heap[g]? = some (.cells (outC N N K) 4 (0, 0))) : KbS B w N (gs ++ [g]) (Ks ++ [K]) := by
  (refine ⟨by simp [h.1], fun j b L e1 e2 => ?_⟩)
  rcases Nat.lt_or_ge j gs.length with hj | hj
  · rw [List.getElem?_append_left hj] at e1
    (rw [List.getElem?_append_left (by rw [← h.1]; exact hj)] at e2); exact h.2 j b L e1 e2
  · rw [List.getElem?_append_right hj] at e1
    (rw [List.getElem?_append_right (by rw [← h.1]; exact hj), ← h.1] at e2)
    cases hq : j - gs.length with
    | zero => rw [hq] at e1 e2; simp at e1 e2; subst e1 e2; exact ⟨h1, h2⟩
    | succ q => rw [hq] at e1; simp at e1
theorem mtvs_take (S : Nat → List Nat) (p : Nat → List UInt8 → Bool) : ∀ (ks : List Fm) (i : Nat) (f : Fm), ks[i]? = some f → (mtvs S p ks).take (i + 1) = (mtvs S p ks).take i ++ [mtv S p f]
  | [], i, f, h => by simp at h
  | k :: ks, 0, f, h => by simp at h; subst h; rw [mtvs]; simp
  | k :: ks, i + 1, f, h => by
    (have := mtvs_take S p ks i f (by simpa using h)); rw [mtvs, List.take_succ_cons, List.take_succ_cons, this, List.cons_append]
theorem mtvs_len (S : Nat → List Nat) (p : Nat → List UInt8 → Bool) : ∀ ks : List Fm, (mtvs S p ks).length = ks.length
  | [] => by rw [mtvs]; rfl
  | k :: ks => by rw [mtvs, List.length_cons, List.length_cons, mtvs_len S p ks]
/-- All but one block is as it was. -/
def Far (O : Nat) (R w : World) : Prop := R.heap.size ≤ w.heap.size ∧ ∀ p, p ≠ O → p < R.heap.size → w.heap[p]? = R.heap[p]?
theorem Far.refl (O : Nat) (R : World) : Far O R R := ⟨Nat.le_refl _, fun _ _ _ => rfl⟩
theorem Far.below {O : Nat} {R w w' : World} (h : Far O R w) (hb : Below w.heap.size w w') : Far O R w' := ⟨Nat.le_trans h.1 hb.size, fun p h1 h2 => (hb.block p (Nat.lt_of_lt_of_le h2 h.1)).trans (h.2 p h1 h2)⟩
theorem Far.set {O : Nat} {R w : World} (h : Far O R w) (o : Nat) (v : Value) : Far O R (w.setCell ⟨O, o, none⟩ v) := ⟨by simp only [World.setCell, Array.size_modify]; exact h.1, fun p h1 h2 => (farM h1 v).trans (h.2 p h1 h2)⟩
theorem Far.blk {O p : Nat} {R w : World} {o : Obj} (h : Far O R w) (hp : p ≠ O) (ho : R.heap[p]? = some o) : w.heap[p]? = some o := (h.2 p hp (lt_of_block ho)).trans ho
theorem Far.cell {O : Nat} {R w : World} {a : Addr} {v : Value} (h : Far O R w) (hp : a.block ≠ O) (ho : R.cell? a = some v) : w.cell? a = some v := (cell_of_block (h.2 _ hp (lt_of_cell ho))).trans ho
def AllR (N : Nat) (rel : List (Int × Int)) (tr : List (List (List UInt8))) (m : Nat) : Prop := ∀ (f : Fm) (v u : Value) (w : World), f.size < m → Fine f → MR w ⟨(N : Int), rel, tr⟩ v → Rep w (fun _ => True) f u →
  Calls Try.prog 24 #[v, u] w fun e w' => ∃ g, e = .returned (.slice (some ⟨g, 0, none⟩) N N) ∧ w.heap.size ≤ g ∧ w'.heap[g]? = some (.cells (outC N N (mtv (seeR N (relB rel)) (pT tr) f)) 4 (0, 0)) ∧ Below w.heap.size w w'
def AllF (N : Nat) (rel : List (Int × Int)) (tr : List (List (List UInt8))) (f : Fm) : Prop := ∀ (v u : Value) (w : World), MR w ⟨(N : Int), rel, tr⟩ v → Rep w (fun _ => True) f u →
  Calls Try.prog 24 #[v, u] w fun e w' => ∃ g, e = .returned (.slice (some ⟨g, 0, none⟩) N N) ∧ w.heap.size ≤ g ∧ w'.heap[g]? = some (.cells (outC N N (mtv (seeR N (relB rel)) (pT tr) f)) 4 (0, 0)) ∧ Below w.heap.size w w'
theorem rowA10 (l : List Value) (h0 : l.length = 10) : ∃ x0 x1 x2 x3 x4 x5 x6 x7 x8 x9, l = [x0, x1, x2, x3, x4, x5, x6, x7, x8, x9] := by
  obtain ⟨x0, l1, e0, h1⟩ := cons_lenM h0; obtain ⟨x1, l2, e1, h2⟩ := cons_lenM h1; obtain ⟨x2, l3, e2, h3⟩ := cons_lenM h2; obtain ⟨x3, l4, e3, h4⟩ := cons_lenM h3; obtain ⟨x4, l5, e4, h5⟩ := cons_lenM h4; obtain ⟨x5, l6, e5, h6⟩ := cons_lenM h5; obtain ⟨x6, l7, e6, h7⟩ := cons_lenM h6; obtain ⟨x7, l8, e7, h8⟩ := cons_lenM h7; obtain ⟨x8, l9, e8, h9⟩ := cons_lenM h8; obtain ⟨x9, l10, e9, h10⟩ := cons_lenM h9; have e10 : l10 = [] := List.length_eq_zero_iff.1 h10; subst e10 e9 e8 e7 e6 e5 e4 e3 e2 e1 e0; exact ⟨x0, x1, x2, x3, x4, x5, x6, x7, x8, x9, rfl⟩
theorem rowA11 (l : List Value) (h0 : l.length = 11) : ∃ x0 x1 x2 x3 x4 x5 x6 x7 x8 x9 x10, l = [x0, x1, x2, x3, x4, x5, x6, x7, x8, x9, x10] := by
  obtain ⟨x0, l1, e0, h1⟩ := cons_lenM h0; obtain ⟨x1, l2, e1, h2⟩ := cons_lenM h1; obtain ⟨x2, l3, e2, h3⟩ := cons_lenM h2; obtain ⟨x3, l4, e3, h4⟩ := cons_lenM h3; obtain ⟨x4, l5, e4, h5⟩ := cons_lenM h4; obtain ⟨x5, l6, e5, h6⟩ := cons_lenM h5; obtain ⟨x6, l7, e6, h7⟩ := cons_lenM h6; obtain ⟨x7, l8, e7, h8⟩ := cons_lenM h7; obtain ⟨x8, l9, e8, h9⟩ := cons_lenM h8; obtain ⟨x9, l10, e9, h10⟩ := cons_lenM h9; obtain ⟨x10, l11, e10, h11⟩ := cons_lenM h10; have e11 : l11 = [] := List.length_eq_zero_iff.1 h11; subst e11 e10 e9 e8 e7 e6 e5 e4 e3 e2 e1 e0; exact ⟨x0, x1, x2, x3, x4, x5, x6, x7, x8, x9, x10, rfl⟩
theorem rowA21 (l : List Value) (h0 : l.length = 21) : ∃ x0 x1 x2 x3 x4 x5 x6 x7 x8 x9 x10 x11 x12 x13 x14 x15 x16 x17 x18 x19 x20, l = [x0, x1, x2, x3, x4, x5, x6, x7, x8, x9, x10, x11, x12, x13, x14, x15, x16, x17, x18, x19, x20] := by
  obtain ⟨x0, l1, e0, h1⟩ := cons_lenM h0; obtain ⟨x1, l2, e1, h2⟩ := cons_lenM h1; obtain ⟨x2, l3, e2, h3⟩ := cons_lenM h2; obtain ⟨x3, l4, e3, h4⟩ := cons_lenM h3; obtain ⟨x4, l5, e4, h5⟩ := cons_lenM h4; obtain ⟨x5, l6, e5, h6⟩ := cons_lenM h5; obtain ⟨x6, l7, e6, h7⟩ := cons_lenM h6; obtain ⟨x7, l8, e7, h8⟩ := cons_lenM h7; obtain ⟨x8, l9, e8, h9⟩ := cons_lenM h8; obtain ⟨x9, l10, e9, h10⟩ := cons_lenM h9; obtain ⟨x10, l11, e10, h11⟩ := cons_lenM h10; obtain ⟨x11, l12, e11, h12⟩ := cons_lenM h11; obtain ⟨x12, l13, e12, h13⟩ := cons_lenM h12; obtain ⟨x13, l14, e13, h14⟩ := cons_lenM h13; obtain ⟨x14, l15, e14, h15⟩ := cons_lenM h14; obtain ⟨x15, l16, e15, h16⟩ := cons_lenM h15; obtain ⟨x16, l17, e16, h17⟩ := cons_lenM h16; obtain ⟨x17, l18, e17, h18⟩ := cons_lenM h17; obtain ⟨x18, l19, e18, h19⟩ := cons_lenM h18; obtain ⟨x19, l20, e19, h20⟩ := cons_lenM h19; obtain ⟨x20, l21, e20, h21⟩ := cons_lenM h20; have e21 : l21 = [] := List.length_eq_zero_iff.1 h21; subst e21 e20 e19 e18 e17 e16 e15 e14 e13 e12 e11 e10 e9 e8 e7 e6 e5 e4 e3 e2 e1 e0; exact ⟨x0, x1, x2, x3, x4, x5, x6, x7, x8, x9, x10, x11, x12, x13, x14, x15, x16, x17, x18, x19, x20, rfl⟩
theorem outC_put {w : World} {N i O : Nat} {T : Nat → Bool} {b : Bool} (h : w.heap[O]? = some (.cells (outC N i T) 4 (0, 0))) (e : T i = b) : (w.setCell ⟨O, i, none⟩ (.bool b)).heap[O]? = some (.cells (outC N (i + 1) T) 4 (0, 0)) := by
  subst e; have := set_cellE (j := i) h (.bool (T i)); rw [outC_set] at this; exact this
theorem outC_put2 {w : World} {N i O : Nat} {T : Nat → Bool} {b c : Bool} (h : w.heap[O]? = some (.cells ((outC N i T).setIfInBounds i (.bool b)) 4 (0, 0))) : (w.setCell ⟨O, i, none⟩ (.bool c)).heap[O]? = some (.cells ((outC N i T).setIfInBounds i (.bool c)) 4 (0, 0)) := by
  have := set_cellE (j := i) h (.bool c); rw [outS_set] at this; exact this
end Go.Proofs.Ytclinobfbdljhah
/- Walks: worlds parted by their names (byNames). -/
namespace Go.Proofs.Ytclinobfbdljhah
open Go.RowKit Go.Maps Go.WideMaps

/-- A model as its worlds see and are named, in memory. -/
def VwR (w : World) (N : Nat) (R : Nat → Nat → Bool) (nss : List (List (List UInt8))) (v : Value) : Prop := ∃ g h, v = .agg #[.slice (some ⟨g, 0, none⟩) N N, .slice (some ⟨h, 0, none⟩) N N] ∧ FR w g N R ∧ nss.length = N ∧ ∀ (j : Nat) (r : List (List UInt8)), nss[j]? = some r → ∃ u, w.cell? ⟨h, j, none⟩ = some u ∧ SL w u r
theorem VwR.up {w w' : World} {N : Nat} {R : Nat → Nat → Bool} {nss : List (List (List UInt8))} {v : Value} (h : VwR w N R nss v) (hb : Below w.heap.size w w') : VwR w' N R nss v := by
  obtain ⟨g, h1, rfl, h2, h3, h4⟩ := h; (refine ⟨g, h1, rfl, h2.up hb, h3, fun j r hj => ?_⟩); obtain ⟨u, c1, c2⟩ := h4 j r hj; exact ⟨u, (hb.cell (lt_of_cell c1)).trans c1, c2.up hb⟩
/-- Numbers in a row of one's own. -/
def OwnN (B : Nat) (w : World) (ad : Option Addr) (cp : Nat) (l : List Nat) : Prop := w.ownsRow B 3 1 (.slice ad l.length cp) l.length (l.map encI)
theorem OwnN.nl {B : Nat} {w : World} {ad : Option Addr} {cp : Nat} {l : List Nat} (h : OwnN B w ad cp l) : NL w (.slice ad l.length cp) l := by
  obtain ⟨c1, c2⟩ := rowM_caps h; (refine ⟨ad, cp, rfl, c1, c2, fun hne => ?_⟩); obtain ⟨b, rfl, hc⟩ := rowM_cells h (List.length_pos_iff.2 hne); (refine ⟨b, rfl, fun j m hj => ?_⟩); (have := hc j (encI m) (by rw [List.getElem?_map, hj]; rfl))
  rwa [Nat.zero_add] at this
theorem OwnN.nil {B : Nat} {w : World} : OwnN B w none 0 [] := ⟨rfl, Or.inl ⟨rfl, rfl⟩⟩
/-- It stays where only a map changes. -/
theorem OwnN.kept {B b : Nat} {w w' : World} {ad : Option Addr} {cp : Nat} {l : List Nat} (h : OwnN B w ad cp l) (hk : Kept (fun x => x ≠ b) w w') (hm : ∀ cs T f, w.heap[b]? ≠ some (.cells cs T f)) : OwnN B w' ad cp l :=
  rowM_move h fun g _ _ hh => hk.block g (lt_of_block hh) fun e => hm _ _ _ (e ▸ hh)
theorem NuM.noCells {α : Type} [DecidableEq α] {kt : TypeId} {key : α → Lit} {Ok : α → Prop} {w : World} {b : Nat} {l : List α} (h : NuM kt key Ok w b l) (cs : Array Value) (T : TypeId) (f : Nat × Nat) : w.heap[b]? ≠ some (.cells cs T f) := by
  obtain ⟨n, D, ⟨es, clock, hb, r⟩, r2⟩ := h; rw [hb]; intro e
  cases e
theorem below_kept {B b : Nat} {w w1 w2 : World} (h : Below B w w1) (hk : Kept (fun x => x ≠ b) w1 w2) (hB : B ≤ w1.heap.size) (hb : B ≤ b) : Below B w w2 :=
  ⟨hk.os.trans h.os, hk.tape.trans h.tape, hk.output.trans h.output, Nat.le_trans h.size hk.size, fun x hx => (hk.block x (by omega) (by omega)).trans (h.block x hx)⟩
/-- The first level. -/
def byN (nss : List (List (List UInt8))) : List Nat := numK (nss.map keyN)
theorem take_num {α : Type} [DecidableEq α] {ks : List α} {i : Nat} {k : α} (h : ks[i]? = some k) : numK (ks.take (i + 1)) = numK (ks.take i) ++ [nuK (extK [] (ks.take i)) k] ∧ extK [] (ks.take (i + 1)) = extK (extK [] (ks.take i)) [k] := by
  (have e : ks.take (i + 1) = ks.take i ++ [k] := by rw [List.take_add_one, h]; rfl); rw [e]; exact ⟨numK_snoc _ _, extK_app _ _ _⟩
set_option maxRecDepth 10000 in
set_option maxHeartbeats 8000000 in
theorem byNames_any {N : Nat} (hN : N ≤ 40) (R : Nat → Nat → Bool) (nss : List (List (List UInt8))) (hns : ∀ r ∈ nss, r.length ≤ 30 ∧ ∀ t ∈ r, t.length ≤ 8) (v : Value) (w : World) (hv : VwR w N R nss v) :
    Calls Try.prog 96 #[v] w fun e w' => ∃ ad cp, e = .returned (.slice ad N cp) ∧ OwnN w.heap.size w' ad cp (byN nss) ∧ Below w.heap.size w w' := by
  obtain ⟨g, h, rfl, h2, h3, h4⟩ := hv; (have hNI : (N : Int) ≤ 40 := by omega); have hmm := @run_makeMap Try.prog; obtain ⟨ks, hks⟩ : ∃ ks, ks = nss.map keyN := ⟨_, rfl⟩; (have hkl : ks.length = N := by rw [hks, List.length_map, h3]); have H4 : Hid (∀ (j : Nat) (r : List (List UInt8)), nss[j]? = some r → ∃ u, w.cell? ⟨h, j, none⟩ = some u ∧ SL w u r) := h4; have HNs : Hid (∀ r ∈ nss, r.length ≤ 30 ∧ ∀ t ∈ r, t.length ≤ 8) := hns; (have HBy : Hid (byN nss = numK ks) := by rw [hks]; rfl); have HKs : Hid (ks = nss.map keyN) := hks; have HKl : Hid (ks.length = N) := hkl; have H3 : Hid (nss.length = N) := h3; obtain ⟨X, hX⟩ : ∃ X, X = (w.alloc (.cells #[.slice (some ⟨g, 0, none⟩) N N, .slice (some ⟨h, 0, none⟩) N N] 84 (0, 0))).alloc (.map #[] 0) := ⟨_, rfl⟩; (have HB0 : Hid (Below w.heap.size w X) := by rw [hX]; exact below_more (below_more (Below.refl _ w) _) _)
  have HM0 : Hid (NuT X (w.heap.size + 1) []) := by
    (have := NuM.nil (kt := 9) (key := fun t => Lit.string t) (Ok := OkT) (w := w.alloc (.cells #[.slice (some ⟨g, 0, none⟩) N N, .slice (some ⟨h, 0, none⟩) N N] 84 (0, 0)))); rw [World.size_alloc] at this; rw [hX]; exact this
  (obtain ⟨q0, q1, -⟩ := blk2 (show X.heap[w.heap.size]? = some (.cells #[.slice (some ⟨g, 0, none⟩) N N, .slice (some ⟨h, 0, none⟩) N N] 84 (0, 0)) by rw [hX]; exact alloc_keep (blk_new _ _) _)); have HXe : Hid ((w.alloc (.cells #[.slice (some ⟨g, 0, none⟩) N N, .slice (some ⟨h, 0, none⟩) N N] 84 (0, 0))).alloc (.map #[] 0) = X) := hX.symm; clear h2 h3 h4 hns hks hX hkl
  go_enter Try.func96, Try.ntmps96
  go_upto_region 3 with fail
  rw [HXe.out]; clear hmm; go_wp2_with fail
  go_loopg [11, 4] N (fun gg cc x wr => ∃ i ad cp, i ≤ N ∧ gg = N - i ∧ cc = .int .i64 (i : Nat) ∧ x = .slice ad (numK (ks.take i)).length cp ∧ Hid (OwnN w.heap.size wr ad cp (numK (ks.take i))) ∧ Hid (NuT wr (w.heap.size + 1) (extK [] (ks.take i))) ∧ Hid (Below w.heap.size w wr))
  case atStart => exact ⟨0, none, 0, by omega, by omega, rfl, rfl, OwnN.nil, HM0, HB0⟩
  case round =>
    obtain ⟨i, ad, cp, hi, hg, rfl, rfl, HOw, HMp, HB⟩ := hrel; have HGk : Hid (gk = N - i) := hg; clear hg; by_cases hlt : i < N
    · have hltI : (i : Int) < (N : Int) := by omega
      have HI : Hid (i < N) := hlt; (obtain ⟨r, hr⟩ : ∃ r, nss[i]? = some r := ⟨_, List.getElem?_eq_getElem (by rw [H3.out]; exact hlt)⟩); (have hk : ks[i]? = some (keyN r) := by rw [HKs.out, List.getElem?_map, hr]; rfl); obtain ⟨hn1, hn2⟩ := take_num hk; have HT1 : Hid (numK (ks.take (i + 1)) = numK (ks.take i) ++ [nuK (extK [] (ks.take i)) (keyN r)]) := hn1; have HT2 : Hid (extK [] (ks.take (i + 1)) = extK (extK [] (ks.take i)) [keyN r]) := hn2; obtain ⟨u, cu, su⟩ := H4.out i r hr; have c1 := (HB.out.cell (lt_of_cell cu)).trans cu
      have HSu : Hid (SL wr u r) := by
        obtain ⟨ad', cap', e', r1, r2, r3⟩ := su; (refine ⟨ad', cap', e', r1, r2, fun hne => ?_⟩); obtain ⟨b9, off9, e9, hc9⟩ := r3 hne; (exact ⟨b9, off9, e9, fun j t hj => (HB.out.cell (lt_of_cell (hc9 j t hj))).trans (hc9 j t hj)⟩)
      obtain ⟨hr30, hr8⟩ := HNs.out r (List.mem_of_getElem? hr); have hk9 := keyN_len r hr8; (have hll : (numK (ks.take i)).length = i := by rw [numK_len, List.length_take, HKl.out]; omega)
      have hel : (extK [] (ks.take i)).length ≤ 1000 := by
        have := extK_len (ks.take i) ([] : List (List UInt8)); rw [List.length_take] at this; simp at this; omega
      (have HJ := joinT_any r (by omega) hr8 u wr HSu.out); (have HNu : Hid (∀ W, NuT W (w.heap.size + 1) (extK [] (ks.take i)) → Calls Try.prog 111 #[.string ⟨(keyN r).toArray⟩, .map (some (w.heap.size + 1))] W fun e w' => e = .returned (.int .i64 (nuK (extK [] (ks.take i)) (keyN r) : Nat)) ∧ NuT w' (w.heap.size + 1) (extK (extK [] (ks.take i)) [keyN r]) ∧ Kept (fun x => x ≠ w.heap.size + 1) W w') := fun W hW => numberT_any _ (by omega) _ _ hel W hW); generalize hLL : numK (ks.take i) = LL at *; generalize nuK (extK [] (ks.take i)) (keyN r) = nn at *; generalize extK [] (ks.take i) = kn at *; have HLn : Hid (LL.length = i) := hll; (have hlnI : (LL.length : Int) ≤ 40 := by omega); obtain ⟨adu, cpu, hu, -⟩ := HSu.out; subst hu; clear hlt hi hr hk hn1 hn2 cu su hr30 hr8 hk9 hel hLL hll; go_wp2_with fail; refine HJ.mono ?_; rintro _ w1 ⟨rfl, hb1⟩; have HO1 : Hid (OwnN w.heap.size w1 ad cp LL) := rowM_up HOw.out hb1; have HM1 : Hid (NuT w1 (w.heap.size + 1) kn) := NuM.same HMp.out (hb1.block _ (NuM.lt HMp.out)); have HB1 : Hid (Below w.heap.size w w1) := HB.out.trans (hb1.mono HB.out.size); clear hb1 HJ; go_wp2_with fail; refine (HNu.out w1 HM1.out).mono ?_; rintro _ w2 ⟨rfl, hm2, hk2⟩; have HO2 : Hid (OwnN w.heap.size w2 ad cp LL) := OwnN.kept HO1.out hk2 (NuM.noCells HM1.out); have HM2 : Hid (NuT w2 (w.heap.size + 1) (extK kn [keyN r])) := hm2; (have HB2 : Hid (Below w.heap.size w w2) := below_kept HB1.out hk2 HB1.out.size (by omega)); clear hm2 hk2; obtain ⟨i0, hi0, hz0, hz1, hz2⟩ := infoI9
      go_wp2_with (first
        | (at_builtin
           have hsz := HB2.out.size; have hown := rowM_up HO2.out ((Below.refl _ w2).alloc (Nat.le_refl _) (.cells #[.int .i64 (nn : Nat)] 3 (0, 0))); (refine wpList_append_lies _ rfl _ _ 45 rfl w.heap.size 3 i0 (.int .i64 0) 1 8 Try.underlying45 hi0 hz0 hz1 hz2 rfl (by decide) (.slice ad LL.length cp) LL.length (LL.map encI) rfl hown ⟨w2.heap.size, 0, none⟩ 1 1 [.int .i64 (nn : Nat)] rfl rfl ?_ ?_ (by omega) (by unfold maxLen; omega) (by omega) (by simp; omega) _ rfl ?_)
           · intro j u hu
             rw [add_none, Nat.zero_add, blk_cell (blk_new w2 _)]; simpa using hu
           · intro u hu
             simp at hu; subst hu; rfl
           intro g3 cp3 w3 hown3 hgrow hat hlt3; have hgrow' : (w2.alloc (.cells #[.int .i64 (nn : Nat)] 3 (0, 0))).grownBy w3 (Value.slice ad LL.length cp).ownBlock := hgrow; have hlt' := World.ownsRow.lt HO2.out; (have HB3 : Hid (Below w.heap.size w w3) := ((HB2.out.alloc hsz _).grown hgrow' (by simp; omega) fun k hk => by have := (hlt' k hk).1; omega))
           have HM3 : Hid (NuT w3 (w.heap.size + 1) (extK kn [keyN r])) := NuM.same HM2.out ((hgrow'.block _ (by have := NuM.lt HM2.out; simp; omega) fun e => by
             rcases HO2.out.2 with ⟨h5, -⟩ | ⟨g5, cap5, cur5, hv5, -, hh5, -⟩
             · rw [h5] at e; cases e
             · rw [hv5] at e
               simp only [Value.ownBlock, Option.some.injEq] at e; rw [← e] at hh5
               exact NuM.noCells HM2.out _ _ _ hh5).trans (Below.heap_alloc _ _ _ (NuM.lt HM2.out)))
           have HOw3 : Hid (w3.ownsRow w.heap.size 3 1 (.slice (some ⟨g3, 0, none⟩) (LL.length + 1) cp3) (LL.length + 1) (LL.map encI ++ [.int .i64 (nn : Nat)])) := hown3
           clear hgrow hgrow' hat hown3 hown hlt' hsz hlt3 hi0 hz0 hz1 hz2)
        | fail)
      (have hl9 : (numK (ks.take (i + 1))).length = LL.length + 1 := by rw [HT1.out]; simp)
      go_roundg (N - (i + 1))
      case measure => have := HGk.out; have := HI.out; omega
      case rel =>
        (refine ⟨i + 1, some ⟨g3, 0, none⟩, cp3, HI.out, rfl, by go_num, by rw [hl9], ?_, by rw [HT2.out]; exact HM3, HB3⟩); show OwnN _ _ _ _ _; unfold OwnN; rw [hl9, HT1.out, List.map_append]; exact HOw3.out
    · have hii : i = N := by omega
      subst hii; (have hge : ¬ (i : Int) < (i : Int) := by omega); (have htk : ks.take i = ks := List.take_of_length_le (by rw [HKl.out]; exact Nat.le_refl _)); rw [htk] at HOw ⊢; (have HLn : Hid ((numK ks).length = i) := by show _ = _; rw [numK_len, HKl.out]); clear hlt hi htk; go_wp2_with fail; go_ret; (exact ⟨ad, cp, by rw [← HLn.out]; rfl, by rw [HBy.out]; exact HOw.out, HB.out⟩)
end Go.Proofs.Ytclinobfbdljhah
