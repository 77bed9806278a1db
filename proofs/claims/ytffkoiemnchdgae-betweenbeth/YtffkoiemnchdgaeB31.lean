/- Texts of one proof, one behind the other: BD1, BD2. -/
import Derived.Test.YtffkoiemnchdgaeB29
import Derived.Test.YtffkoiemnchdgaeB04
import Derived.Test.YtffkoiemnchdgaeB03
/- Walks: what Define asks of texts and of rows (its closures). -/
namespace Go.Proofs.Ytffkoiemnchdgae
open Go.RowKit Go.Sort

/-- A text in a block of its own. -/
def OkT (bt : Nat) (t : List UInt8) (w : World) : Prop := w.heap[bt]? = some (.cells #[.string ⟨t.toArray⟩] 9 (0, 0))

theorem def1_in (cap : Array Value) (w : World) : (callFunc 50 cap).run Try.prog w = .ok (.enter 50 cap) w := by
  simp [go_sem]
theorem def2_in (cap : Array Value) (w : World) : (callFunc 52 cap).run Try.prog w = .ok (.enter 52 cap) w := by
  simp [go_sem]
theorem def3_in (cap : Array Value) (w : World) : (callFunc 54 cap).run Try.prog w = .ok (.enter 54 cap) w := by
  simp [go_sem]

set_option maxHeartbeats 2000000 in
theorem asksW (f : Fm) (hp : f.pcode.1 = 0) (t : List UInt8) (ht : isNm t = true) (bf bt : Nat) : AskL 500 52 #[.pointer (some ⟨bf, 0, none⟩), .pointer (some ⟨bt, 0, none⟩)] (fun l => tvL f (l ++ [t])) (fun w => OkFm bf f w ∧ OkT bt t w) where
  le := by omega
  up := fun h hb => ⟨h.1.up hb, below_keep hb h.2⟩
  ent := fun _ w => def2_in _ w
  call := fun l v w hok hg hv => by
    obtain ⟨⟨k, n, ks, sl, cp, rfl, hb, hr⟩, h2⟩ := hok; (have hgg : GoodL 1000 (l ++ [t]) := ⟨by have := hg.few; simp; omega, fun x hx => by rcases List.mem_append.1 hx with hx | hx; exact hg.names x hx; simp at hx; subst hx; exact ht⟩); (have HI : Hid (∀ u W, Below w.heap.size w W → SL W u (l ++ [t]) → Calls Try.prog 42 #[.agg #[.int .i64 k, .string n, .slice sl ks.length cp], u] W fun e w' => e = .returned (.bool (tvL (.mk k n ks) (l ++ [t]))) ∧ Below W.heap.size W w') := fun u W hb h => isTrueB_any _ hp _ hgg _ _ W (hr.up hb) h); (have HW : Hid (∀ W, SL W v l → Calls Try.prog 53 #[v, .string ⟨t.toArray⟩] W fun e w' => ∃ ad cp, e = .returned (.slice ad (l.length + 1) cp) ∧ SL w' (.slice ad (l.length + 1) cp) (l ++ [t]) ∧ Below W.heap.size W w') := fun W h => withS_any l t (by have := hg.few; omega) v W h); have HV : Hid (SL w v l) := hv; obtain ⟨ad, cap, rfl, -⟩ := hv; have HQ : Hid (w.heap[bf]? = some _) := hb; obtain ⟨a0, a1, a2, -⟩ := blk3 hb; have HT : Hid (w.heap[bt]? = some _) := h2; obtain ⟨c0, -⟩ := blk1 h2; generalize tvL (.mk k n ks) (l ++ [t]) = bb at *; generalize l ++ [t] = R at *; clear hb hr hp hg hgg h2; show Calls Try.prog _ #[_, _, _] w _
    go_enter Try.func52, Try.ntmps52
    go_wp2_with fail
    go_region_held3 (fun w' => w'.cell? ⟨bf, 0, none⟩ = some (.int .i64 k) ∧ w'.cell? ⟨bf, 1, none⟩ = some (.string n) ∧ w'.cell? ⟨bf, 2, none⟩ = some (.slice sl ks.length cp) ∧ w'.cell? ⟨bt, 0, none⟩ = some (.string ⟨t.toArray⟩)) (go_keep)
      (first
       | (go_at_call 53
          refine (HW.out _ (HV.out.up (Below.refl _ _).drew)).mono ?_; rintro e w1 ⟨adx, cpx, rfl, hx, hb1⟩; have HX : Hid (SL w1 _ R) := hx; have HB1 : Hid (Below w.heap.size w w1) := below_join (Below.refl _ _).drew hb1; obtain ⟨g0, g1, g2, -⟩ := blk3 (below_keep HB1.out HQ.out); obtain ⟨g3, -⟩ := blk1 (below_keep HB1.out HT.out)
          clear hx hb1)
       | (go_at_call 42
          refine (HI.out _ _ HB1.out HX.out).mono ?_; rintro e w2 ⟨rfl, hb2⟩; have HB2 : Hid (Below w.heap.size w w2) := below_join HB1.out hb2; obtain ⟨i0, i1, i2, -⟩ := blk3 (below_keep HB2.out HQ.out); obtain ⟨i3, -⟩ := blk1 (below_keep HB2.out HT.out)
          clear hb2)
       | fail)
    all_goals
      go_wp2_with fail; go_ret; exact ⟨rfl, HB2.out⟩

/-- What Define$3 finds in memory. -/
def OkD (bf bt b9 : Nat) (f : Fm) (t : List UInt8) (w : World) : Prop := (OkFm bf f w ∧ OkT bt t w) ∧ w.heap[b9]? = some (.cells #[.func (.func 52) #[] #[.pointer (some ⟨bf, 0, none⟩), .pointer (some ⟨bt, 0, none⟩)]] 72 (0, 0))

set_option maxHeartbeats 2000000 in
theorem asksD (f : Fm) (hp : f.pcode.1 = 0) (t : List UInt8) (ht : isNm t = true) (bf bt b9 : Nat) : AskL 500 54 #[.pointer (some ⟨bf, 0, none⟩), .pointer (some ⟨b9, 0, none⟩)] (fun l => tvL f l && tvL f (l ++ [t])) (OkD bf bt b9 f t) where
  le := by omega
  up := fun h hb => ⟨⟨h.1.1.up hb, below_keep hb h.1.2⟩, below_keep hb h.2⟩
  ent := fun _ w => def3_in _ w
  call := fun l v w hok hg hv => by
    obtain ⟨hok1, h9⟩ := hok; (have HJ : Hid (∀ w', Below w.heap.size w w' → Calls Try.prog 52 (#[v] ++ #[.pointer (some ⟨bf, 0, none⟩), .pointer (some ⟨bt, 0, none⟩)]) w' fun e w'' => e = .returned (.bool (tvL f (l ++ [t]))) ∧ Below w'.heap.size w' w'') := fun w' h => (asksW f hp t ht bf bt).call l v w' ((asksW f hp t ht bf bt).up hok1 h) hg (hv.up h)); have hcf := def2_in; obtain ⟨⟨k, n, ks, sl, cp, rfl, hb, hr⟩, h2⟩ := hok1; (have HI : Hid (Calls Try.prog 42 #[.agg #[.int .i64 k, .string n, .slice sl ks.length cp], v] w fun e w' => e = .returned (.bool (tvL (.mk k n ks) l)) ∧ Below w.heap.size w w') := isTrueB_any _ hp l ⟨by have := hg.few; omega, hg.names⟩ _ _ w hr hv); have H9 : Hid (w.heap[b9]? = some _) := h9; obtain ⟨ad, cap, rfl, -⟩ := hv; obtain ⟨a0, a1, a2, -⟩ := blk3 hb; generalize tvL (.mk k n ks) l = bb at *; generalize tvL (.mk k n ks) (l ++ [t]) = cc at *; clear hb hr hp hg h2 h9; show Calls Try.prog _ #[_, _, _] w _
    go_enter Try.func54, Try.ntmps54
    go_wp2_with fail; refine HI.out.mono ?_; rintro e w1 ⟨rfl, hb1⟩; obtain ⟨c0, -⟩ := blk1 (below_keep hb1 H9.out); have HB1 : Hid (Below w.heap.size w w1) := hb1; clear hb1 a0 a1 a2
    cases bb
    · go_wp2_with fail
      go_ret; exact ⟨rfl, HB1.out⟩
    · go_wp2_with fail
      refine (HJ.out w1 HB1.out).mono ?_; rintro e w2 ⟨rfl, hb2⟩; have HB2' : Hid (Below w.heap.size w w2) := below_join HB1.out hb2; clear hb2 c0; go_wp2_with fail; go_ret; (exact ⟨by cases cc <;> rfl, HB2'.out⟩)

set_option maxHeartbeats 2000000 in
theorem this_any (t s : List UInt8) (bt : Nat) (w : World) (h : OkT bt t w) :
    Calls Try.prog 50 #[.string ⟨s.toArray⟩, .pointer (some ⟨bt, 0, none⟩)] w fun e w' => e = .returned (.bool (decide (s = t))) ∧ w' = w := by
  obtain ⟨c0, -⟩ := blk1 h; clear h
  go_enter Try.func50, Try.ntmps50
  go_wp2_with fail; go_ret; refine ⟨?_, rfl⟩; show Ending.returned (.bool (s == t)) = _
  have : (s == t) = decide (s = t) := by
    by_cases h : s = t
    · subst h; simp
    · rw [decide_eq_false h]; simpa using h
  rw [this]

theorem predThis (t : List UInt8) (bt : Nat) : PredS 50 #[.pointer (some ⟨bt, 0, none⟩)] (fun s => decide (s = t)) (OkT bt t) where
  up := fun h hb => below_keep hb h
  ent := fun _ w => def1_in _ w
  call := fun s w hok _ => (this_any t s bt w hok).mono fun e w' h => ⟨h.1, by rw [h.2]; exact Below.refl _ _⟩
end Go.Proofs.Ytffkoiemnchdgae
/- What is struck from a list of texts: slices.DeleteFunc with Define$1. -/
namespace Go.Proofs.Ytffkoiemnchdgae
open Go.RowKit Go.Sort Go.Shelf Go.Lib

def encT (t : List UInt8) : Value := .string ⟨t.toArray⟩
theorem oneT : OneCell encT := fun _ => rfl
theorem putT_other {w : World} {g b q : Nat} (d : Array (List UInt8)) (h : b ≠ g) : (putRow encT (Sort.ahead w q) g 0 d).heap[b]? = w.heap[b]? := by
  simp [putRow, mapBlock, Sort.ahead, Array.getElem?_modify, Ne.symm h]
theorem putT_size {w : World} {g q : Nat} (d : Array (List UInt8)) : (putRow encT (Sort.ahead w q) g 0 d).heap.size = w.heap.size := by
  simp [putRow, mapBlock, Sort.ahead]
theorem putT_kept {w : World} {g q : Nat} (d : Array (List UInt8)) : Kept (fun b => b ≠ g) w (putRow encT (Sort.ahead w q) g 0 d) :=
  ⟨rfl, rfl, rfl, by rw [putT_size]; exact Nat.le_refl _, fun b _ hb => putT_other d hb⟩
theorem del_st (t : List UInt8) (bt : Nat) (l : List (List UInt8)) (g cap : Nat) (w : World) (hT : OkT bt t w) (hcg : bt ≠ g) (hH : Holds encT w g 0 l.toArray) (hl : l.length ≤ 10000000) (hcap : l.length ≤ cap) :
    Calls Try.prog 51 #[.slice (some ⟨g, 0, none⟩) l.length cap, .func (.func 50) #[] #[.pointer (some ⟨bt, 0, none⟩)]] w fun e w' => e = .returned (.slice (some ⟨g, 0, none⟩) (l.filter fun x => !decide (x = t)).length cap) ∧ Holds encT w' g 0 ((l.filter fun x => !decide (x = t)) ++ List.replicate (l.length - (l.filter fun x => !decide (x = t)).length) []).toArray ∧ ∃ q, w' = putRow encT (Sort.ahead w q) g 0 ((l.filter fun x => !decide (x = t)) ++ List.replicate (l.length - (l.filter fun x => !decide (x = t)).length) []).toArray := by
  (have hsz : l.toArray.size = l.length := by simp)
  have hlt : bt < w.heap.size := by
    rcases Nat.lt_or_ge bt w.heap.size with h | h
    · exact h
    · unfold OkT at hT; rw [Array.getElem?_eq_none h] at hT; cases hT
  (have give : ∀ W, OkT bt t W → ∀ s, FnGives Try.prog 50 #[.pointer (some ⟨bt, 0, none⟩)] #[encT s] (.bool (decide (s = t))) W := fun W hW s => (this_any t s bt W hW).mono fun e w' he => ⟨he.1, 0, he.2⟩)
  have hcon := AnyE.slices_DeleteFunc Try.layStDel encT oneT (fun x => decide (x = t)) 50 #[.pointer (some ⟨bt, 0, none⟩)] (fun args w => def1_in args w) [] Try.zeroValue9 g 0 cap l.toArray w
    (fun W x hb => give W ((hb.block bt hlt).trans hT) x)
    (fun n os dk x hdk => give _ (by
      show ((putRow encT (Sort.ahead w n) g 0 dk).heap ++ os)[bt]? = _
      rw [Array.getElem?_append_left (by rw [putT_size]; exact hlt), putT_other dk hcg]; exact hT) x) hH (by rw [hsz]; omega) (by rw [hsz]; exact hcap)
  rw [hsz] at hcon; refine hcon.mono ?_; rintro e w' ⟨rfl, q, rfl⟩; (have hfl : (l.filter fun x => !decide (x = t)).length ≤ l.length := List.length_filter_le _ _); refine ⟨rfl, ?_, q, rfl⟩; (exact holds_putRow encT (Sort.ahead w q) g 0 l.toArray ((l.filter fun x => !decide (x = t)) ++ List.replicate (l.length - (l.filter fun x => !decide (x = t)).length) []).toArray (holds_ahead _ _ _ _ _ _ hH) (by rw [List.size_toArray, List.size_toArray, List.length_append, List.length_replicate]; omega))
end Go.Proofs.Ytffkoiemnchdgae
