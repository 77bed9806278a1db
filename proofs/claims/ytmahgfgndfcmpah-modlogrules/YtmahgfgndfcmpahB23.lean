/- Texts of one proof, one behind the other: ML8, ML9. -/
import Derived.Test.YtmahgfgndfcmpahB21
import Derived.BigRegion
import Derived.RegionTactic
import Derived.Test.YtmahgfgndfcmpahB17
/- Rows of worlds in memory; two of them change places (slices.swapRangeCmpFunc). -/
namespace Go.Proofs.Ytmahgfgndfcmpah
open Go.RowKit Go.Sort

/-- The cells of worlds. -/
def encW (ps : List PartM) : List Nat → List Value
  | [] => []
  | h :: l => .int .u64 (h : Nat) :: .int .u64 (bm ps.length (wnB ps h) : Nat) :: .int .u64 (bm ps.length (swB ps h) : Nat) :: encW ps l
section
variable {ps : List PartM}
theorem encW_len : ∀ l, (encW ps l).length = l.length * 3
  | [] => rfl
  | h :: l => by rw [encW, List.length_cons, List.length_cons, List.length_cons, encW_len l, List.length_cons]; omega
theorem encW_app : ∀ l l', encW ps (l ++ l') = encW ps l ++ encW ps l'
  | [], _ => rfl
  | h :: l, l' => by rw [List.cons_append, encW, encW_app l l', encW]; rfl
theorem encW_one : ∀ l, ∀ u ∈ encW ps l, u.oneCell' = true
  | [], _, h => by cases h
  | p :: l, u, h => by
    rw [encW] at h
    rcases List.mem_cons.1 h with rfl | h
    · rfl
    rcases List.mem_cons.1 h with rfl | h
    · rfl
    rcases List.mem_cons.1 h with rfl | h
    · rfl
    exact encW_one l u h
theorem encW_at : ∀ (l : List Nat) (j h : Nat), l[j]? = some h → (encW ps l)[j * 3]? = some (.int .u64 (h : Nat)) ∧ (encW ps l)[j * 3 + 1]? = some (.int .u64 (bm ps.length (wnB ps h) : Nat)) ∧ (encW ps l)[j * 3 + 2]? = some (.int .u64 (bm ps.length (swB ps h) : Nat))
  | [], j, h, e => by simp at e
  | p :: l, 0, h, e => by
    simp at e; subst e
    exact ⟨rfl, rfl, rfl⟩
  | p :: l, j + 1, h, e => by
    (have h9 := encW_at l j h (by simpa using e)); (rw [encW, show (j + 1) * 3 = j * 3 + 1 + 1 + 1 by omega]); exact h9
theorem encW_set : ∀ (l : List Nat) (j h : Nat), j < l.length → (((encW ps l).set (j * 3) (.int .u64 (h : Nat))).set (j * 3 + 1) (.int .u64 (bm ps.length (wnB ps h) : Nat))).set (j * 3 + 2) (.int .u64 (bm ps.length (swB ps h) : Nat)) = encW ps (l.set j h)
  | [], j, h, e => by simp at e
  | p :: l, 0, h, _ => by rfl
  | p :: l, j + 1, h, e => by
    (have h9 := encW_set l j h (by simpa using e)); (rw [List.set_cons_succ, encW, encW, show (j + 1) * 3 = j * 3 + 1 + 1 + 1 by omega]); simp only [List.set_cons_succ]; rw [h9]
end
/-- A row of worlds in a block, and what lies behind it. -/
def SRow (ps : List PartM) (w : World) (g : Nat) (l : List Nat) (rest : List Value) : Prop := w.heap[g]? = some (.cells (encW ps l ++ rest).toArray 59 (0, 0))
theorem SRow.cells {ps : List PartM} {w : World} {g : Nat} {l : List Nat} {rest : List Value} (h : SRow ps w g l rest) {j x : Nat} (hj : l[j]? = some x) : w.cell? ⟨g, j * 3, none⟩ = some (.int .u64 (x : Nat)) ∧ w.cell? ⟨g, j * 3 + 1, none⟩ = some (.int .u64 (bm ps.length (wnB ps x) : Nat)) ∧ w.cell? ⟨g, j * 3 + 2, none⟩ = some (.int .u64 (bm ps.length (swB ps x) : Nat)) ∧ w.frozen? ⟨g, j * 3, none⟩ = false ∧ w.frozen? ⟨g, j * 3 + 1, none⟩ = false ∧ w.frozen? ⟨g, j * 3 + 2, none⟩ = false := by
  obtain ⟨a, b, c⟩ := encW_at (ps := ps) l j x hj; have hl := (List.getElem?_eq_some_iff.1 hj).1; have hn := encW_len (ps := ps) l; refine ⟨(blk_cell h _).trans ?_, (blk_cell h _).trans ?_, (blk_cell h _).trans ?_, blk_fz h _, blk_fz h _, blk_fz h _⟩
  · rw [List.getElem?_toArray, List.getElem?_append_left (by omega)]; exact a
  · rw [List.getElem?_toArray, List.getElem?_append_left (by omega)]; exact b
  · rw [List.getElem?_toArray, List.getElem?_append_left (by omega)]; exact c
theorem blk_setW {w : World} {b i : Nat} {cs : Array Value} {T : TypeId} (h : w.heap[b]? = some (.cells cs T (0, 0))) (v : Value) : (w.setCell ⟨b, i, none⟩ v).heap[b]? = some (.cells (cs.setIfInBounds i v) T (0, 0)) := by
  simp [World.setCell, Array.getElem?_modify, h]
theorem SRow.put {ps : List PartM} {w : World} {g : Nat} {l : List Nat} {rest : List Value} (h : SRow ps w g l rest) {j : Nat} (hj : j < l.length) (x : Nat) : SRow ps (((w.setCell ⟨g, j * 3, none⟩ (.int .u64 (x : Nat))).setCell ⟨g, j * 3 + 1, none⟩ (.int .u64 (bm ps.length (wnB ps x) : Nat))).setCell ⟨g, j * 3 + 2, none⟩ (.int .u64 (bm ps.length (swB ps x) : Nat))) g (l.set j x) rest := by
  have hn := encW_len (ps := ps) l; unfold SRow; rw [blk_setW (blk_setW (blk_setW h _) _) _]
  congr 2
  apply Array.ext'; simp only [Array.toList_setIfInBounds]; (rw [List.set_append_left _ _ (by omega), List.set_append_left _ _ (by simp; omega), List.set_append_left _ _ (by simp; omega), encW_set l j x hj])
theorem swap_perm {l : List Nat} {i j x y : Nat} (hi : l[i]? = some x) (hj : l[j]? = some y) : ((l.set i y).set j x).Perm l := by
  have hil := (List.getElem?_eq_some_iff.1 hi).1; have hjl := (List.getElem?_eq_some_iff.1 hj).1; rw [List.perm_iff_count]; intro a; by_cases e : i = j
  · subst e
    rw [hi] at hj; have : x = y := Option.some.inj hj; subst this; rw [List.set_set]
    have : l.set i x = l := by
      apply List.ext_getElem?; intro n; by_cases h : i = n
      · subst h; rw [List.getElem?_set_self hil, hi]
      · rw [List.getElem?_set_ne h]
    rw [this]
  · have h1 : (l.set i y)[j]? = some y := by rw [List.getElem?_set_ne e]; exact hj
    have e1 : l[i] = x := (List.getElem?_eq_some_iff.1 hi).2; (have e2 : (l.set i y)[j]'(by simpa using hjl) = y := (List.getElem?_eq_some_iff.1 h1).2); (rw [List.count_set (by simpa using hjl), List.count_set hil, e1, e2])
    have hx : (x == a) = true → 0 < l.count a := fun h => by
      (have : x = a := by simpa using h); rw [← this]; exact List.count_pos_iff.2 (List.mem_of_getElem? hi)
    (by_cases hxa : (x == a) = true <;> by_cases hya : (y == a) = true <;> simp [hxa, hya] <;> try (have := hx hxa; omega))
theorem Kept.set {g i : Nat} {w w' : World} (h : Kept (fun b => b ≠ g) w w') (v : Value) : Kept (fun b => b ≠ g) w (w'.setCell ⟨g, i, none⟩ v) := by
  (refine ⟨h.os, h.tape, h.output, ?_, fun k hk hne => ?_⟩)
  · simp only [World.setCell, Array.size_modify]; exact h.size
  · rw [farM hne]; exact h.block k hk hne
theorem Kept.drewK {ok : Nat → Prop} {w w' : World} (h : Kept ok w w') : Kept ok w w'.drew := ⟨h.os, h.tape, h.output, h.size, h.block⟩
/-- What a sort leaves: the row in another order, all else as it was. -/
def SortP (ps : List PartM) (g : Nat) (l : List Nat) (rest : List Value) (w : World) (e : Ending) (w' : World) : Prop := ∃ l', l'.Perm l ∧ e = .returned (.tuple #[]) ∧ SRow ps w' g l' rest ∧ Kept (fun b => b ≠ g) w w'
set_option maxRecDepth 10000 in
set_option maxHeartbeats 4000000 in
theorem swapRange_any {ps : List PartM} (g cap : Nat) (f : Value) (rest : List Value) (l : List Nat) (hl : l.length ≤ 100000) (hc : l.length ≤ cap) (a b n : Nat) (ha : a + n ≤ l.length) (hb : b + n ≤ l.length) (w : World) (hr : SRow ps w g l rest) :
    Calls Try.prog 86 #[.slice (some ⟨g, 0, none⟩) l.length cap, .int .i64 (a : Nat), .int .i64 (b : Nat), .int .i64 (n : Nat), f] w fun e w' => SortP ps g l rest w e w' := by
  have HR : Hid (SRow ps w g l rest) := hr; (have hlI : (l.length : Int) ≤ 100000 := by omega); (have hcI : (l.length : Int) ≤ (cap : Int) := by omega); (have haI : (a : Int) + (n : Int) ≤ (l.length : Int) := by omega); (have hbI : (b : Int) + (n : Int) ≤ (l.length : Int) := by omega); clear hr
  go_enter Try.func86, Try.ntmps86
  go_wp2_with fail
  go_loopg [10] n (fun gg c wr => ∃ i l', i ≤ n ∧ gg = n - i ∧ c = .int .i64 (i : Nat) ∧ Hid (l'.Perm l) ∧ Hid (SRow ps wr g l' rest) ∧ Hid (Kept (fun b => b ≠ g) w wr))
  case atStart => exact ⟨0, l, by omega, by omega, rfl, List.Perm.refl _, HR, Kept.refl _ _⟩
  case round =>
    obtain ⟨i, l', hi, hg, rfl, HP, HR', HK⟩ := hrel; have HGk : Hid (gk = n - i) := hg; clear hg; by_cases hlt : i < n
    · have hltI : (i : Int) < (n : Int) := by omega
      have HI : Hid (i < n) := hlt; have hll := HP.out.length_eq; (obtain ⟨x, hx⟩ : ∃ x, l'[a + i]? = some x := ⟨_, List.getElem?_eq_getElem (by omega)⟩); (obtain ⟨y, hy⟩ : ∃ y, l'[b + i]? = some y := ⟨_, List.getElem?_eq_getElem (by omega)⟩); obtain ⟨x0, x1, x2, x3, x4, x5⟩ := HR'.out.cells hx; obtain ⟨y0, y1, y2, y3, y4, y5⟩ := HR'.out.cells hy; clear hlt hi hll; (have hp := HR'.out.put (j := a + i) (by have := HP.out.length_eq; omega) y); (obtain ⟨z, hz⟩ : ∃ z, (l'.set (a + i) y)[b + i]? = some z := ⟨_, List.getElem?_eq_getElem (by have := HP.out.length_eq; simp; omega)⟩); obtain ⟨z0, z1, z2, z3, z4, z5⟩ := hp.cells hz; (have hq := hp.put (j := b + i) (by have := HP.out.length_eq; simp; omega) x); obtain ⟨V, hV⟩ : ∃ V, V = ((((((wr).setCell ⟨g, (a + i) * 3, none⟩ (.int .u64 (y : Nat))).setCell ⟨g, (a + i) * 3 + 1, none⟩ (.int .u64 (bm ps.length (wnB ps y) : Nat))).setCell ⟨g, (a + i) * 3 + 2, none⟩ (.int .u64 (bm ps.length (swB ps y) : Nat))).setCell ⟨g, (b + i) * 3, none⟩ (.int .u64 (x : Nat))).setCell ⟨g, (b + i) * 3 + 1, none⟩ (.int .u64 (bm ps.length (wnB ps x) : Nat))).setCell ⟨g, (b + i) * 3 + 2, none⟩ (.int .u64 (bm ps.length (swB ps x) : Nat)) := ⟨_, rfl⟩; (have HQ : Hid (SRow ps V g ((l'.set (a + i) y).set (b + i) x) rest) := by rw [hV]; exact hq); have HS : Hid (((l'.set (a + i) y).set (b + i) x).Perm l) := (swap_perm hx hy).trans HP.out; (have HK2 : Hid (Kept (fun b => b ≠ g) w V) := by rw [hV]; exact (((((HK.out.set _).set _).set _).set _).set _).set _); clear hx hy hp hz hq; go_wp2_with fail
      go_region
      all_goals
        rw [← hV]; clear hV; clear x0 x1 x2 x3 x4 x5 y0 y1 y2 y3 y4 y5 z0 z1 z2 z3 z4 z5; go_wp2_with fail
        go_roundg (n - (i + 1))
        case measure => have := HGk.out; have := HI.out; omega
        case rel => exact ⟨i + 1, _, HI.out, rfl, by go_num, HS, HQ, HK2.out.drewK⟩
    · have hii : i = n := by omega
      subst hii; (have hge : ¬ (i : Int) < (i : Int) := by omega); clear hlt hi; go_wp2_with fail
      go_end0
      exact ⟨l', HP.out, rfl, HR'.out, HK.out⟩
end Go.Proofs.Ytmahgfgndfcmpah
/- Walks: worlds moved in a row (slices.rotateCmpFunc, insertionSortCmpFunc). -/
namespace Go.Proofs.Ytmahgfgndfcmpah
open Go.RowKit Go.Sort

theorem keptW_on {ok ok' : Nat → Prop} {a b c : World} (h : Kept ok a b) (k : Kept ok' b c) (hi : ∀ x, x < a.heap.size → ok x → ok' x) : Kept ok a c :=
  ⟨k.os.trans h.os, k.tape.trans h.tape, k.output.trans h.output, Nat.le_trans h.size k.size, fun x hx ho => (k.block x (Nat.lt_of_lt_of_le hx h.size) (hi x hx ho)).trans (h.block x hx ho)⟩
theorem Kept.belowK {ok : Nat → Prop} {w w1 w' : World} (h : Kept ok w w1) (hb : Below w1.heap.size w1 w') : Kept ok w w' := keptW_on (ok' := fun _ => True) h ⟨hb.os, hb.tape, hb.output, hb.size, fun k hk _ => hb.block k hk⟩ fun _ _ _ => trivial
theorem SRow.up {ps : List PartM} {w w' : World} {g : Nat} {l : List Nat} {rest : List Value} (h : SRow ps w g l rest) (hb : Below w.heap.size w w') : SRow ps w' g l rest := below_keep hb h
theorem rowW17 (l : List Value) (h0 : l.length = 17) : ∃ x0 x1 x2 x3 x4 x5 x6 x7 x8 x9 x10 x11 x12 x13 x14 x15 x16, l = [x0, x1, x2, x3, x4, x5, x6, x7, x8, x9, x10, x11, x12, x13, x14, x15, x16] := by
  obtain ⟨x0, l1, e0, h1⟩ := cons_lenM h0; obtain ⟨x1, l2, e1, h2⟩ := cons_lenM h1; obtain ⟨x2, l3, e2, h3⟩ := cons_lenM h2; obtain ⟨x3, l4, e3, h4⟩ := cons_lenM h3; obtain ⟨x4, l5, e4, h5⟩ := cons_lenM h4; obtain ⟨x5, l6, e5, h6⟩ := cons_lenM h5; obtain ⟨x6, l7, e6, h7⟩ := cons_lenM h6; obtain ⟨x7, l8, e7, h8⟩ := cons_lenM h7; obtain ⟨x8, l9, e8, h9⟩ := cons_lenM h8; obtain ⟨x9, l10, e9, h10⟩ := cons_lenM h9; obtain ⟨x10, l11, e10, h11⟩ := cons_lenM h10; obtain ⟨x11, l12, e11, h12⟩ := cons_lenM h11; obtain ⟨x12, l13, e12, h13⟩ := cons_lenM h12; obtain ⟨x13, l14, e13, h14⟩ := cons_lenM h13; obtain ⟨x14, l15, e14, h15⟩ := cons_lenM h14; obtain ⟨x15, l16, e15, h16⟩ := cons_lenM h15; obtain ⟨x16, l17, e16, h17⟩ := cons_lenM h16; have e17 : l17 = [] := List.length_eq_zero_iff.1 h17; subst e17 e16 e15 e14 e13 e12 e11 e10 e9 e8 e7 e6 e5 e4 e3 e2 e1 e0; exact ⟨x0, x1, x2, x3, x4, x5, x6, x7, x8, x9, x10, x11, x12, x13, x14, x15, x16, rfl⟩
def kBo : Value → World → Prop := fun v _ => ∃ hi9, v = .bool hi9
theorem kBo_stays : Stays kBo := fun _ _ _ h _ => h
set_option maxRecDepth 10000 in
set_option maxHeartbeats 4000000 in
theorem rotate_any {ps : List PartM} (g cap : Nat) (f : Value) (rest : List Value) (l : List Nat) (hl : l.length ≤ 100000) (hc : l.length ≤ cap) (a m b : Nat) (ham : a < m) (hmb : m < b) (hbl : b ≤ l.length) (w : World) (hr : SRow ps w g l rest) :
    Calls Try.prog 74 #[.slice (some ⟨g, 0, none⟩) l.length cap, .int .i64 (a : Nat), .int .i64 (m : Nat), .int .i64 (b : Nat), f] w fun e w' => SortP ps g l rest w e w' := by
  have HR : Hid (SRow ps w g l rest) := hr
  have HSw : Hid (∀ (l1 : List Nat) (x y n : Nat) (W : World), l1.Perm l → x + n ≤ l.length → y + n ≤ l.length → SRow ps W g l1 rest → Calls Try.prog 86 #[.slice (some ⟨g, 0, none⟩) l.length cap, .int .i64 (x : Nat), .int .i64 (y : Nat), .int .i64 (n : Nat), f] W fun e w' => SortP ps g l1 rest W e w') := fun l1 x y n W hp h1 h2 h3 => by
    (have := swapRange_any (ps := ps) g cap f rest l1 (by rw [hp.length_eq]; exact hl) (by rw [hp.length_eq]; exact hc) x y n (by rw [hp.length_eq]; exact h1) (by rw [hp.length_eq]; exact h2) W h3)
    rwa [hp.length_eq] at this
  (have hlI : (l.length : Int) ≤ 100000 := by omega); (have hbI : (b : Int) ≤ 100000 := by omega); (have hmI : (m : Int) ≤ 100000 := by omega); (have hma : (m : Int) - (a : Int) = ((m - a : Nat) : Int) := by omega); (have hbm : (b : Int) - (m : Int) = ((b - m : Nat) : Int) := by omega); obtain ⟨i0, hi0⟩ : ∃ i0, i0 = m - a := ⟨_, rfl⟩; obtain ⟨j0, hj0⟩ : ∃ j0, j0 = b - m := ⟨_, rfl⟩; rw [← hi0] at hma; rw [← hj0] at hbm; (have HI0 : Hid (1 ≤ i0 ∧ 1 ≤ j0 ∧ i0 ≤ m ∧ m + j0 = b ∧ m < b ∧ b ≤ l.length ∧ l.length ≤ 100000) := by show _ ∧ _; omega); (have hi0I : (i0 : Int) ≤ 100000 := by omega); (have hj0I : (j0 : Int) ≤ 100000 := by omega); clear hr hi0 hj0 hl hc ham hmb hbl
  go_enter Try.func74, Try.ntmps74
  go_wp2_with fail; clear hma hbm
  go_loopg [10, 11] (i0 + j0) (fun gg c d wr => ∃ i j l', gg = i + j ∧ c = .int .i64 (i : Nat) ∧ d = .int .i64 (j : Nat) ∧ Hid (1 ≤ i ∧ 1 ≤ j ∧ i ≤ i0 ∧ j ≤ j0) ∧ Hid (l'.Perm l) ∧ Hid (SRow ps wr g l' rest) ∧ Hid (Kept (fun b => b ≠ g) w wr))
  case atStart => exact ⟨i0, j0, l, rfl, rfl, rfl, ⟨HI0.out.1, HI0.out.2.1, Nat.le_refl _, Nat.le_refl _⟩, List.Perm.refl _, HR, Kept.refl _ _⟩
  case round =>
    obtain ⟨i, j, l', hg, rfl, rfl, HIJ, HP, HR', HK⟩ := hrel; have HGk : Hid (gk = i + j) := hg; (have hiI : (i : Int) ≤ 100000 := by have := HI0.out; have := HIJ.out; omega); (have hjI : (j : Int) ≤ 100000 := by have := HI0.out; have := HIJ.out; omega); obtain ⟨p, hp⟩ : ∃ p, p = m - i := ⟨_, rfl⟩; (have HPm : Hid (p + i = m) := by have := HI0.out; have := HIJ.out; show _ = _; omega); (have hmp : (m : Int) - (i : Int) = (p : Int) := by have := HPm.out; omega); (have hpI : (p : Int) ≤ 100000 := by have := HPm.out; omega); clear hg hp
    rcases Nat.lt_trichotomy i j with hij | hij | hij
    · have hne : ((i : Int) != (j : Int)) = true := by simp; omega
      (have hgt : decide ((j : Int) < (i : Int)) = false := decide_eq_false (by omega)); obtain ⟨q, hq⟩ : ∃ q, q = m + j - i := ⟨_, rfl⟩; (have hqq : (m : Int) + (j : Int) - (i : Int) = (q : Int) := by omega); (have hji : (j : Int) - (i : Int) = ((j - i : Nat) : Int) := by omega); obtain ⟨jn, hjn⟩ : ∃ jn, jn = j - i := ⟨_, rfl⟩; rw [← hjn] at hji; (have hjnI : (jn : Int) ≤ 100000 := by omega); have HQ : Hid (q = m + j - i ∧ jn = j - i ∧ i < j) := ⟨hq, hjn, hij⟩; clear hq hjn hij; go_wp2_with fail; (refine (HSw.out l' p q i wr HP.out (by have := HI0.out; have := HIJ.out; have := HPm.out; omega) (by have := HI0.out; have := HIJ.out; have := HQ.out; omega) HR'.out).mono ?_); rintro _ w1 ⟨l1, h1, rfl, h3, h4⟩; have HP1 : Hid (l1.Perm l) := h1.trans HP.out; have HR1 : Hid (SRow ps w1 g l1 rest) := h3; (have HK1 : Hid (Kept (fun b => b ≠ g) w w1) := keptW_on HK.out h4 fun _ _ h => h); clear h1 h3 h4; go_wp2_with fail
      go_roundg (i + jn)
      case measure => have := HGk.out; have := HQ.out; have := HIJ.out; omega
      case rel => exact ⟨i, jn, l1, rfl, rfl, rfl, by have := HIJ.out; have := HQ.out; show _ ∧ _; omega, HP1, HR1, HK1⟩
    · subst hij
      (have hne : ((i : Int) != (i : Int)) = false := by simp); go_wp2_with fail; (refine (HSw.out l' p m i wr HP.out (by have := HI0.out; have := HIJ.out; have := HPm.out; omega) (by have := HI0.out; have := HIJ.out; omega) HR'.out).mono ?_); rintro _ w1 ⟨l1, h1, rfl, h3, h4⟩; have HP1 : Hid (l1.Perm l) := h1.trans HP.out; have HR1 : Hid (SRow ps w1 g l1 rest) := h3; (have HK1 : Hid (Kept (fun b => b ≠ g) w w1) := keptW_on HK.out h4 fun _ _ h => h); clear h1 h3 h4; go_wp2_with fail
      go_end0
      exact ⟨l1, HP1.out, rfl, HR1.out, HK1.out⟩
    · have hne : ((i : Int) != (j : Int)) = true := by simp; omega
      (have hgt : (j : Int) < (i : Int) := by omega); (have hji : (i : Int) - (j : Int) = ((i - j : Nat) : Int) := by omega); obtain ⟨jn, hjn⟩ : ∃ jn, jn = i - j := ⟨_, rfl⟩; rw [← hjn] at hji; (have hjnI : (jn : Int) ≤ 100000 := by omega); have HQ : Hid (jn = i - j ∧ j < i) := ⟨hjn, hij⟩; clear hjn hij; go_wp2_with fail; (refine (HSw.out l' p m j wr HP.out (by have := HI0.out; have := HIJ.out; have := HPm.out; have := HQ.out; omega) (by have := HI0.out; have := HIJ.out; omega) HR'.out).mono ?_); rintro _ w1 ⟨l1, h1, rfl, h3, h4⟩; have HP1 : Hid (l1.Perm l) := h1.trans HP.out; have HR1 : Hid (SRow ps w1 g l1 rest) := h3; (have HK1 : Hid (Kept (fun b => b ≠ g) w w1) := keptW_on HK.out h4 fun _ _ h => h); clear h1 h3 h4; go_wp2_with fail
      go_roundg (jn + j)
      case measure => have := HGk.out; have := HQ.out; have := HIJ.out; omega
      case rel => exact ⟨jn, j, l1, rfl, rfl, rfl, by have := HIJ.out; have := HQ.out; show _ ∧ _; omega, HP1, HR1, HK1⟩
set_option maxRecDepth 10000 in
set_option maxHeartbeats 8000000 in
theorem insertW_any {ps : List PartM} (g cap : Nat) (rest : List Value) (l : List Nat) (hl : l.length ≤ 100000) (hc : l.length ≤ cap) (lo hi9 : Nat) (hal : lo ≤ l.length) (hbl : hi9 ≤ l.length) (w : World) (hr : SRow ps w g l rest) :
    Calls Try.prog 70 #[.slice (some ⟨g, 0, none⟩) l.length cap, .int .i64 (lo : Nat), .int .i64 (hi9 : Nat), .func (.func 52) #[] #[]] w fun e w' => SortP ps g l rest w e w' := by
  have HR : Hid (SRow ps w g l rest) := hr; (have HCm : Hid (∀ u v W, Calls Try.prog 52 #[WV ps u, WV ps v] W _) := fun u v W => cmpW_any ps u v W); have hcf := worlds1_in; (have hlI : (l.length : Int) ≤ 100000 := by omega); (have hcI : (l.length : Int) ≤ (cap : Int) := by omega); (have hbI : (hi9 : Int) ≤ (l.length : Int) := by omega); (have haI : (lo : Int) ≤ (l.length : Int) := by omega); have HBL : Hid (hi9 ≤ l.length ∧ l.length ≤ cap ∧ l.length ≤ 100000 ∧ lo ≤ l.length) := ⟨hbl, hc, hl, hal⟩; unfold WV at HCm; clear hr hl hc hal hbl
  go_enter Try.func70, Try.ntmps70
  go_wp2_with fail
  go_loopg [8] (hi9 - (lo + 1)) (fun gg c wr => ∃ i l', lo + 1 ≤ i ∧ gg = hi9 - i ∧ c = .int .i64 (i : Nat) ∧ i ≤ l.length + 1 ∧ Hid (l'.Perm l) ∧ Hid (SRow ps wr g l' rest) ∧ Hid (Kept (fun b => b ≠ g) w wr))
  case atStart => exact ⟨lo + 1, l, by omega, by omega, by go_num, by have := HBL.out; omega, List.Perm.refl _, HR, Kept.refl _ _⟩
  case round =>
    obtain ⟨i, l', hi, hg, rfl, hi2, HP, HR', HK⟩ := hrel; have HGk : Hid (gk = hi9 - i) := hg; clear hg; by_cases hlt : i < hi9
    case neg =>
      (have hge : decide (i < hi9) = false := decide_eq_false (by omega)); clear hlt hi hi2; go_wp2_with fail
      go_end0
      exact ⟨l', HP.out, rfl, HR'.out, HK.out⟩
    (have hltI : (i : Int) < (hi9 : Int) := by omega); have HI : Hid (i < hi9 ∧ lo + 1 ≤ i) := ⟨hlt, hi⟩; (have hiI : (i : Int) ≤ 100000 := by omega); clear hlt hi hi2; go_wp2_with fail
    go_loopg [9] i (fun gg c wr => ∃ j l1, lo ≤ j ∧ j ≤ i ∧ gg = j ∧ c = .int .i64 (j : Nat) ∧ Hid (l1.Perm l) ∧ Hid (SRow ps wr g l1 rest) ∧ Hid (Kept (fun b => b ≠ g) w wr))
    case atStart => exact ⟨i, l', by have := HI.out; omega, by omega, rfl, rfl, HP, HR', HK⟩
    case round =>
      obtain ⟨j, l1, hj, hji, hg, rfl, HP1, HR1, HK1⟩ := hrel; have HGj : Hid (gk = j) := hg; have HJ : Hid (lo ≤ j ∧ j ≤ i) := ⟨hj, hji⟩; (have hjI : (j : Int) ≤ 100000 := by omega); clear hg; by_cases hja : lo < j
      case neg =>
        (have hgt : decide (lo < j) = false := decide_eq_false (by omega)); clear hj hji hja; go_wp2_with fail; (refine wp_region_free (by kernel_rfl) [fun v _ => v = (.int .i64 (j : Nat)), fun v _ => v = (.int .i64 (lo : Nat)), fun v _ => v = (.bool false), fun v _ => v = (.bool false), fun _ _ => True, fun _ _ => True, fun _ _ => True, fun _ _ => True, fun _ _ => True, fun _ _ => True, fun _ _ => True, fun _ _ => True, fun _ _ => True, fun _ _ => True, fun _ _ => True, fun _ _ => True, fun v _ => v = (.bool false)] ?_ (by kernel_rfl) (by kernel_rfl) 53 rfl (by kernel_rfl) ?_ ?_)
        · intro p hp
          simp only [List.mem_cons, List.not_mem_nil, or_false] at hp
          rcases hp with rfl | rfl | rfl | rfl | rfl | rfl | rfl | rfl | rfl | rfl | rfl | rfl | rfl | rfl | rfl | rfl | rfl
          · exact fun _ _ _ h _ => h
          · exact fun _ _ _ h _ => h
          · exact fun _ _ _ h _ => h
          · exact fun _ _ _ h _ => h
          · exact fun _ _ _ h _ => h
          · exact fun _ _ _ h _ => h
          · exact fun _ _ _ h _ => h
          · exact fun _ _ _ h _ => h
          · exact fun _ _ _ h _ => h
          · exact fun _ _ _ h _ => h
          · exact fun _ _ _ h _ => h
          · exact fun _ _ _ h _ => h
          · exact fun _ _ _ h _ => h
          · exact fun _ _ _ h _ => h
          · exact fun _ _ _ h _ => h
          · exact fun _ _ _ h _ => h
          · exact fun _ _ _ h _ => h
        · refine ⟨?_, ?_, ?_, ?_, ?_, ?_, ?_, ?_, ?_, ?_, ?_, ?_, ?_, ?_, ?_, ?_, ?_, trivial⟩
          · intro a wx hB hold hdep K hK
            have t9 : a.tmps[9]? = some (.int .i64 (j : Nat)) := hold.2.2 9 rfl; clear hold hdep; go_simp; exact hK.out _ _ rfl (Below.refl _ _)
          · intro a wx hB hold hdep K hK
            have t1 : a.tmps[1]? = some (.int .i64 (lo : Nat)) := hold.2.2 1 rfl; clear hold hdep; go_simp; exact hK.out _ _ rfl (Below.refl _ _)
          · intro a wx hB hold hdep K hK
            obtain ⟨v18, t18, p18⟩ := hdep 0 rfl _ 18 rfl rfl; have e18 : v18 = (.int .i64 (j : Nat)) := p18; subst e18; obtain ⟨v19, t19, p19⟩ := hdep 1 rfl _ 19 rfl rfl; have e19 : v19 = (.int .i64 (lo : Nat)) := p19; subst e19; have h9 := hgt; clear hold hdep; go_simp; exact hK.out _ _ rfl (Below.refl _ _)
          · intro a wx hB hold hdep K hK
            obtain ⟨v20, t20, p20⟩ := hdep 2 rfl _ 20 rfl rfl; have e20 : v20 = (.bool false) := p20; subst e20; clear hold hdep; go_simp; exact hK.out _ _ rfl (Below.refl _ _)
          · intro a wx hB hold hdep K hK
            obtain ⟨v21, t21, p21⟩ := hdep 3 rfl _ 21 rfl rfl; have e21 : v21 = (.bool false) := p21; subst e21; clear hold hdep; go_simp; exact hK.out _ _ trivial (Below.refl _ _)
          · intro a wx hB hold hdep K hK
            obtain ⟨v21, t21, p21⟩ := hdep 3 rfl _ 21 rfl rfl; have e21 : v21 = (.bool false) := p21; subst e21; clear hold hdep; go_simp; exact hK.out _ _ trivial (Below.refl _ _)
          · intro a wx hB hold hdep K hK
            obtain ⟨v21, t21, p21⟩ := hdep 3 rfl _ 21 rfl rfl; have e21 : v21 = (.bool false) := p21; subst e21; clear hold hdep; go_simp; exact hK.out _ _ trivial (Below.refl _ _)
          · intro a wx hB hold hdep K hK
            obtain ⟨v21, t21, p21⟩ := hdep 3 rfl _ 21 rfl rfl; have e21 : v21 = (.bool false) := p21; subst e21; clear hold hdep; go_simp; exact hK.out _ _ trivial (Below.refl _ _)
          · intro a wx hB hold hdep K hK
            obtain ⟨v21, t21, p21⟩ := hdep 3 rfl _ 21 rfl rfl; have e21 : v21 = (.bool false) := p21; subst e21; clear hold hdep; go_simp; exact hK.out _ _ trivial (Below.refl _ _)
          · intro a wx hB hold hdep K hK
            obtain ⟨v21, t21, p21⟩ := hdep 3 rfl _ 21 rfl rfl; have e21 : v21 = (.bool false) := p21; subst e21; clear hold hdep; go_simp; exact hK.out _ _ trivial (Below.refl _ _)
          · intro a wx hB hold hdep K hK
            obtain ⟨v21, t21, p21⟩ := hdep 3 rfl _ 21 rfl rfl; have e21 : v21 = (.bool false) := p21; subst e21; clear hold hdep; go_simp; exact hK.out _ _ trivial (Below.refl _ _)
          · intro a wx hB hold hdep K hK
            obtain ⟨v21, t21, p21⟩ := hdep 3 rfl _ 21 rfl rfl; have e21 : v21 = (.bool false) := p21; subst e21; clear hold hdep; go_simp; exact hK.out _ _ trivial (Below.refl _ _)
          · intro a wx hB hold hdep K hK
            obtain ⟨v21, t21, p21⟩ := hdep 3 rfl _ 21 rfl rfl; have e21 : v21 = (.bool false) := p21; subst e21; clear hold hdep; go_simp; exact hK.out _ _ trivial (Below.refl _ _)
          · intro a wx hB hold hdep K hK
            obtain ⟨v21, t21, p21⟩ := hdep 3 rfl _ 21 rfl rfl; have e21 : v21 = (.bool false) := p21; subst e21; clear hold hdep; go_simp; exact hK.out _ _ trivial (Below.refl _ _)
          · intro a wx hB hold hdep K hK
            obtain ⟨v21, t21, p21⟩ := hdep 3 rfl _ 21 rfl rfl; have e21 : v21 = (.bool false) := p21; subst e21; clear hold hdep; go_simp; exact hK.out _ _ trivial (Below.refl _ _)
          · intro a wx hB hold hdep K hK
            obtain ⟨v21, t21, p21⟩ := hdep 3 rfl _ 21 rfl rfl; have e21 : v21 = (.bool false) := p21; subst e21; clear hold hdep; go_simp; exact hK.out _ _ trivial (Below.refl _ _)
          · intro a wx hB hold hdep K hK
            obtain ⟨v21, t21, p21⟩ := hdep 3 rfl _ 21 rfl rfl; have e21 : v21 = (.bool false) := p21; subst e21; clear hold hdep; go_simp; exact hK.out _ _ rfl (Below.refl _ _)
        · intro a wx hB hold hgot
          obtain ⟨vZ, tvZ, pvZ⟩ := hgot 16 _ 34 rfl rfl; have evZ : vZ = (.bool false) := pvZ; subst evZ; have HBx : Hid (Below wr.heap.size wr wx) := hB; obtain ⟨tm, df⟩ := a; (obtain ⟨ys, hys, htm, rfl⟩ := frame_mid2 18 17 (by kernel_rfl) (Nat.le_of_ble_eq_true rfl) hold); obtain ⟨x18, x19, x20, x21, x22, x23, x24, x25, x26, x27, x28, x29, x30, x31, x32, x33, x34, rfl⟩ := rowW17 ys hys; simp only [List.take_succ_cons, List.take_zero, List.drop_succ_cons, List.drop_zero, List.cons_append, List.nil_append] at htm; subst htm; obtain rfl : x34 = _ := someInjM tvZ; clear hys hold hgot tvZ hB; (have HK2 : Hid (Kept (fun b => b ≠ g) w wx) := HK1.out.belowK HBx.out); have HR2 : Hid (SRow ps wx g l1 rest) := HR1.out.up HBx.out; clear HBx hgt; go_wp2_with fail
          go_roundg (hi9 - (i + 1))
          case measure => have := HGk.out; have := HI.out; omega
          case rel => exact ⟨i + 1, l1, by have := HI.out; omega, rfl, by go_num, by have := HI.out; have := HBL.out; omega, HP1, HR2, HK2⟩
      (obtain ⟨q, hq⟩ : ∃ q, j = q + 1 := ⟨j - 1, by omega⟩); have hgt : decide (lo < j) = true := decide_eq_true hja; (have hql : j < l1.length := by have := HP1.out.length_eq; have := HI.out; have := HBL.out; omega); obtain ⟨xa, hxa⟩ : ∃ x, l1[j]? = some x := ⟨_, List.getElem?_eq_getElem hql⟩; (obtain ⟨xb, hxb⟩ : ∃ x, l1[q]? = some x := ⟨_, List.getElem?_eq_getElem (by omega)⟩); have HXa : Hid (l1[j]? = some xa) := hxa; have HXb : Hid (l1[q]? = some xb) := hxb; have HQa : Hid (lo < j ∧ j = q + 1) := ⟨hja, hq⟩; (have hjq : (j : Int) - 1 = (q : Int) := by omega); (have hq1 : (j : Int) < (l.length : Int) := by have := HP1.out.length_eq; omega); (have hq2 : (q : Int) < (l.length : Int) := by omega); (have hq3 : (j : Int) < (cap : Int) := by omega); (have hq4 : (q : Int) < (cap : Int) := by omega); (have hq5 : IntKind.i64.wrap (q : Int) = (q : Int) := wrap_small q (by omega)); have HQl : Hid (j < l1.length) := hql; clear hq; clear hj hji hja hxa hxb hql; go_wp2_with fail; (refine wp_region_free (by kernel_rfl) [fun v _ => v = (.int .i64 (j : Nat)), fun v _ => v = (.int .i64 (lo : Nat)), fun v _ => v = (.bool true), fun v _ => v = (.bool true), fun v _ => v = (.func (.func 52) #[] #[]), fun v _ => v = (.slice (some ⟨g, 0, none⟩) l.length cap), fun v _ => v = (.int .i64 (j : Nat)), fun v _ => v = (.pointer (some ⟨g, j * 3, none⟩)), fun v _ => v = (.agg #[.int .u64 (xa : Nat), .int .u64 (bm ps.length (wnB ps xa) : Nat), .int .u64 (bm ps.length (swB ps xa) : Nat)]), fun v _ => v = (.slice (some ⟨g, 0, none⟩) l.length cap), fun v _ => v = (.int .i64 (j : Nat)), fun v _ => v = (.int .i64 (q : Nat)), fun v _ => v = (.pointer (some ⟨g, q * 3, none⟩)), fun v _ => v = (.agg #[.int .u64 (xb : Nat), .int .u64 (bm ps.length (wnB ps xb) : Nat), .int .u64 (bm ps.length (swB ps xb) : Nat)]), kInt, kBo, kBo] ?_ (by kernel_rfl) (by kernel_rfl) 53 rfl (by kernel_rfl) ?_ ?_)
      · intro p hp
        simp only [List.mem_cons, List.not_mem_nil, or_false] at hp
        rcases hp with rfl | rfl | rfl | rfl | rfl | rfl | rfl | rfl | rfl | rfl | rfl | rfl | rfl | rfl | rfl | rfl | rfl
        · exact fun _ _ _ h _ => h
        · exact fun _ _ _ h _ => h
        · exact fun _ _ _ h _ => h
        · exact fun _ _ _ h _ => h
        · exact fun _ _ _ h _ => h
        · exact fun _ _ _ h _ => h
        · exact fun _ _ _ h _ => h
        · exact fun _ _ _ h _ => h
        · exact fun _ _ _ h _ => h
        · exact fun _ _ _ h _ => h
        · exact fun _ _ _ h _ => h
        · exact fun _ _ _ h _ => h
        · exact fun _ _ _ h _ => h
        · exact fun _ _ _ h _ => h
        · exact kInt_stays
        · exact kBo_stays
        · exact kBo_stays
      · refine ⟨?_, ?_, ?_, ?_, ?_, ?_, ?_, ?_, ?_, ?_, ?_, ?_, ?_, ?_, ?_, ?_, ?_, trivial⟩
        · intro a wx hB hold hdep K hK
          have t9 : a.tmps[9]? = some (.int .i64 (j : Nat)) := hold.2.2 9 rfl; clear hold hdep; go_simp; exact hK.out _ _ rfl (Below.refl _ _)
        · intro a wx hB hold hdep K hK
          have t1 : a.tmps[1]? = some (.int .i64 (lo : Nat)) := hold.2.2 1 rfl; clear hold hdep; go_simp; exact hK.out _ _ rfl (Below.refl _ _)
        · intro a wx hB hold hdep K hK
          obtain ⟨v18, t18, p18⟩ := hdep 0 rfl _ 18 rfl rfl; have e18 : v18 = (.int .i64 (j : Nat)) := p18; subst e18; obtain ⟨v19, t19, p19⟩ := hdep 1 rfl _ 19 rfl rfl; have e19 : v19 = (.int .i64 (lo : Nat)) := p19; subst e19; have h9 := hgt; clear hold hdep; go_simp; exact hK.out _ _ rfl (Below.refl _ _)
        · intro a wx hB hold hdep K hK
          obtain ⟨v20, t20, p20⟩ := hdep 2 rfl _ 20 rfl rfl; have e20 : v20 = (.bool true) := p20; subst e20; clear hold hdep; go_simp; exact hK.out _ _ rfl (Below.refl _ _)
        · intro a wx hB hold hdep K hK
          obtain ⟨v21, t21, p21⟩ := hdep 3 rfl _ 21 rfl rfl; have e21 : v21 = (.bool true) := p21; subst e21; have t3 : a.tmps[3]? = some (.func (.func 52) #[] #[]) := hold.2.2 3 rfl; clear hold hdep; go_simp; exact hK.out _ _ rfl (Below.refl _ _)
        · intro a wx hB hold hdep K hK
          obtain ⟨v21, t21, p21⟩ := hdep 3 rfl _ 21 rfl rfl; have e21 : v21 = (.bool true) := p21; subst e21; have t0 : a.tmps[0]? = some (.slice (some ⟨g, 0, none⟩) l.length cap) := hold.2.2 0 rfl; clear hold hdep; go_simp; exact hK.out _ _ rfl (Below.refl _ _)
        · intro a wx hB hold hdep K hK
          obtain ⟨v21, t21, p21⟩ := hdep 3 rfl _ 21 rfl rfl; have e21 : v21 = (.bool true) := p21; subst e21; have t9 : a.tmps[9]? = some (.int .i64 (j : Nat)) := hold.2.2 9 rfl; clear hold hdep; go_simp; exact hK.out _ _ rfl (Below.refl _ _)
        · intro a wx hB hold hdep K hK
          obtain ⟨v21, t21, p21⟩ := hdep 3 rfl _ 21 rfl rfl; have e21 : v21 = (.bool true) := p21; subst e21; obtain ⟨v23, t23, p23⟩ := hdep 5 rfl _ 23 rfl rfl; have e23 : v23 = (.slice (some ⟨g, 0, none⟩) l.length cap) := p23; subst e23; obtain ⟨v24, t24, p24⟩ := hdep 6 rfl _ 24 rfl rfl; have e24 : v24 = (.int .i64 (j : Nat)) := p24; subst e24; clear hold hdep; go_simp; exact hK.out _ _ rfl (Below.refl _ _)
        · intro a wx hB hold hdep K hK
          obtain ⟨v21, t21, p21⟩ := hdep 3 rfl _ 21 rfl rfl; have e21 : v21 = (.bool true) := p21; subst e21; obtain ⟨v25, t25, p25⟩ := hdep 7 rfl _ 25 rfl rfl; have e25 : v25 = (.pointer (some ⟨g, j * 3, none⟩)) := p25; subst e25; obtain ⟨q0, q1, q2, -⟩ := (HR1.out.up hB).cells HXa.out; clear hold hdep; go_simp; exact hK.out _ _ rfl (Below.refl _ _)
        · intro a wx hB hold hdep K hK
          obtain ⟨v21, t21, p21⟩ := hdep 3 rfl _ 21 rfl rfl; have e21 : v21 = (.bool true) := p21; subst e21; have t0 : a.tmps[0]? = some (.slice (some ⟨g, 0, none⟩) l.length cap) := hold.2.2 0 rfl; clear hold hdep; go_simp; exact hK.out _ _ rfl (Below.refl _ _)
        · intro a wx hB hold hdep K hK
          obtain ⟨v21, t21, p21⟩ := hdep 3 rfl _ 21 rfl rfl; have e21 : v21 = (.bool true) := p21; subst e21; have t9 : a.tmps[9]? = some (.int .i64 (j : Nat)) := hold.2.2 9 rfl; clear hold hdep; go_simp; exact hK.out _ _ rfl (Below.refl _ _)
        · intro a wx hB hold hdep K hK
          obtain ⟨v21, t21, p21⟩ := hdep 3 rfl _ 21 rfl rfl; have e21 : v21 = (.bool true) := p21; subst e21; obtain ⟨v28, t28, p28⟩ := hdep 10 rfl _ 28 rfl rfl; have e28 : v28 = (.int .i64 (j : Nat)) := p28; subst e28; clear hold hdep; go_simp; exact hK.out _ _ rfl (Below.refl _ _)
        · intro a wx hB hold hdep K hK
          obtain ⟨v21, t21, p21⟩ := hdep 3 rfl _ 21 rfl rfl; have e21 : v21 = (.bool true) := p21; subst e21; obtain ⟨v27, t27, p27⟩ := hdep 9 rfl _ 27 rfl rfl; have e27 : v27 = (.slice (some ⟨g, 0, none⟩) l.length cap) := p27; subst e27; obtain ⟨v29, t29, p29⟩ := hdep 11 rfl _ 29 rfl rfl; have e29 : v29 = (.int .i64 (q : Nat)) := p29; subst e29; clear hold hdep; go_simp; exact hK.out _ _ rfl (Below.refl _ _)
        · intro a wx hB hold hdep K hK
          obtain ⟨v21, t21, p21⟩ := hdep 3 rfl _ 21 rfl rfl; have e21 : v21 = (.bool true) := p21; subst e21; obtain ⟨v30, t30, p30⟩ := hdep 12 rfl _ 30 rfl rfl; have e30 : v30 = (.pointer (some ⟨g, q * 3, none⟩)) := p30; subst e30; obtain ⟨q0, q1, q2, -⟩ := (HR1.out.up hB).cells HXb.out; clear hold hdep; go_simp; exact hK.out _ _ rfl (Below.refl _ _)
        · intro a wx hB hold hdep K hK
          obtain ⟨v21, t21, p21⟩ := hdep 3 rfl _ 21 rfl rfl; have e21 : v21 = (.bool true) := p21; subst e21; obtain ⟨v22, t22, p22⟩ := hdep 4 rfl _ 22 rfl rfl; have e22 : v22 = (.func (.func 52) #[] #[]) := p22; subst e22; obtain ⟨v26, t26, p26⟩ := hdep 8 rfl _ 26 rfl rfl; have e26 : v26 = (.agg #[.int .u64 (xa : Nat), .int .u64 (bm ps.length (wnB ps xa) : Nat), .int .u64 (bm ps.length (swB ps xa) : Nat)]) := p26; subst e26; obtain ⟨v31, t31, p31⟩ := hdep 13 rfl _ 31 rfl rfl; have e31 : v31 = (.agg #[.int .u64 (xb : Nat), .int .u64 (bm ps.length (wnB ps xb) : Nat), .int .u64 (bm ps.length (swB ps xb) : Nat)]) := p31; subst e31; have HW : Hid (Calls Try.prog 52 #[.agg #[.int .u64 (xa : Nat), .int .u64 (bm ps.length (wnB ps xa) : Nat), .int .u64 (bm ps.length (swB ps xa) : Nat)], .agg #[.int .u64 (xb : Nat), .int .u64 (bm ps.length (wnB ps xb) : Nat), .int .u64 (bm ps.length (swB ps xb) : Nat)]] wx _) := HCm.out xa xb wx; clear hold hdep; go_simp; refine HW.out.mono ?_; rintro _ w9 ⟨⟨c9, rfl⟩, hb9⟩; go_simp; exact hK.out _ _ ⟨_, rfl⟩ hb9
        · intro a wx hB hold hdep K hK
          obtain ⟨v21, t21, p21⟩ := hdep 3 rfl _ 21 rfl rfl; have e21 : v21 = (.bool true) := p21; subst e21; obtain ⟨v32, t32, p32⟩ := hdep 14 rfl _ 32 rfl rfl; have P32 : Hid ((kInt) v32 wx) := p32; clear p32; obtain ⟨c9, rfl⟩ := P32.out; clear P32; clear hold hdep; go_simp; exact hK.out _ _ ⟨_, rfl⟩ (Below.refl _ _)
        · intro a wx hB hold hdep K hK
          obtain ⟨v21, t21, p21⟩ := hdep 3 rfl _ 21 rfl rfl; have e21 : v21 = (.bool true) := p21; subst e21; obtain ⟨v33, t33, p33⟩ := hdep 15 rfl _ 33 rfl rfl; have P33 : Hid ((kBo) v33 wx) := p33; clear p33; obtain ⟨c9, rfl⟩ := P33.out; clear P33; clear hold hdep; go_simp; exact hK.out _ _ ⟨_, rfl⟩ (Below.refl _ _)
      · intro a wx hB hold hgot
        obtain ⟨vZ, tvZ, pvZ⟩ := hgot 16 _ 34 rfl rfl; obtain ⟨bz, rfl⟩ := pvZ; have HBx : Hid (Below wr.heap.size wr wx) := hB; obtain ⟨tm, df⟩ := a; (obtain ⟨ys, hys, htm, rfl⟩ := frame_mid2 18 17 (by kernel_rfl) (Nat.le_of_ble_eq_true rfl) hold); obtain ⟨x18, x19, x20, x21, x22, x23, x24, x25, x26, x27, x28, x29, x30, x31, x32, x33, x34, rfl⟩ := rowW17 ys hys; simp only [List.take_succ_cons, List.take_zero, List.drop_succ_cons, List.drop_zero, List.cons_append, List.nil_append] at htm; subst htm; obtain rfl : x34 = _ := someInjM tvZ; clear hys hold hgot tvZ hB; obtain ⟨VX, hVX⟩ : ∃ V, V = wx := ⟨_, rfl⟩; subst hVX; (have HK2 : Hid (Kept (fun b => b ≠ g) w VX) := HK1.out.belowK HBx.out); have HR2 : Hid (SRow ps VX g l1 rest) := HR1.out.up HBx.out; clear HBx hgt HXa HXb HR1 HK1
        cases bz
        · go_wp2_with fail
          go_roundg (hi9 - (i + 1))
          case measure => have := HGk.out; have := HI.out; omega
          case rel => exact ⟨i + 1, l1, by have := HI.out; omega, rfl, by go_num, by have := HI.out; have := HBL.out; omega, HP1, HR2, HK2⟩
        · have hql := HQl.out
          have hqj := HQa.out.2; (obtain ⟨x, hx⟩ : ∃ x, l1[j]? = some x := ⟨_, List.getElem?_eq_getElem (by have := HP1.out.length_eq; omega)⟩); (obtain ⟨y, hy⟩ : ∃ y, l1[q]? = some y := ⟨_, List.getElem?_eq_getElem (by have := HP1.out.length_eq; omega)⟩); obtain ⟨x0, x1, x2, x3, x4, x5⟩ := HR2.out.cells hx; obtain ⟨y0, y1, y2, y3, y4, y5⟩ := HR2.out.cells hy; (have hp := HR2.out.put (j := j) (by have := HP1.out.length_eq; omega) y); (obtain ⟨z, hz⟩ : ∃ z, (l1.set (j) y)[q]? = some z := ⟨_, List.getElem?_eq_getElem (by have := HP1.out.length_eq; simp; omega)⟩); obtain ⟨z0, z1, z2, z3, z4, z5⟩ := hp.cells hz; (have hq := hp.put (j := q) (by have := HP1.out.length_eq; simp; omega) x); obtain ⟨V, hV⟩ : ∃ V, V = ((((((VX).setCell ⟨g, (j) * 3, none⟩ (.int .u64 (y : Nat))).setCell ⟨g, (j) * 3 + 1, none⟩ (.int .u64 (bm ps.length (wnB ps y) : Nat))).setCell ⟨g, (j) * 3 + 2, none⟩ (.int .u64 (bm ps.length (swB ps y) : Nat))).setCell ⟨g, (q) * 3, none⟩ (.int .u64 (x : Nat))).setCell ⟨g, (q) * 3 + 1, none⟩ (.int .u64 (bm ps.length (wnB ps x) : Nat))).setCell ⟨g, (q) * 3 + 2, none⟩ (.int .u64 (bm ps.length (swB ps x) : Nat)) := ⟨_, rfl⟩; (have HRV : Hid (SRow ps V g ((l1.set (j) y).set (q) x) rest) := by rw [hV]; exact hq); have HPV : Hid (((l1.set (j) y).set (q) x).Perm l) := (swap_perm hx hy).trans HP1.out; (have HKV : Hid (Kept (fun b => b ≠ g) w V) := by rw [hV]; exact (((((HK2.out.set _).set _).set _).set _).set _).set _); clear hx hy hp hz hq; clear hql hqj; go_wp2_with fail
          go_region
          all_goals
            rw [← hV]; clear hV; clear x0 x1 x2 x3 x4 x5 y0 y1 y2 y3 y4 y5 z0 z1 z2 z3 z4 z5; go_wp2_with fail
            go_roundg q
            case measure => have := HGj.out; omega
            case rel => exact ⟨q, _, by have := HQa.out; omega, by have := HJ.out; omega, rfl, by go_num, HPV, HRV, HKV.out.drewK⟩
end Go.Proofs.Ytmahgfgndfcmpah
