/- Texts of one proof, one behind the other: ML3, ML7, ML8, ML9, MLA. -/
import Derived.Test.YtmahgfgndfcmpagB09
import Derived.Test.YtmahgfgndfcmpagB01
import Derived.Test.YtmahgfgndfcmpagB10
import Derived.BigRegion
import Derived.RegionTactic
import Derived.Test.YtmahgfgndfcmpagB04
/- Walks: which worlds see each other (the closures of modlog.framesOf). -/
namespace Go.Proofs.Ytmahgfgndfcmpag
open Go.RowKit Go.Sort

/-- A world as a value. -/
def WV (ps : List PartM) (h : Nat) : Value := .agg #[.int .u64 (h : Nat), .int .u64 (bm ps.length (wnB ps h) : Nat), .int .u64 (bm ps.length (swB ps h) : Nat)]
/-- A closure that tells whether a world sees another: it only makes memory; what it reads lies in the blocks of M. -/
structure AskW (fn : Nat) (cap : Array Value) (S : List PartM → Nat → Nat → Bool) (M : Nat → Prop) (Ok : World → Prop) : Prop where
  up : ∀ {w w' : World}, Ok w → (∀ b, M b → w'.heap[b]? = w.heap[b]?) → Ok w'
  old : ∀ {w : World}, Ok w → ∀ b, M b → b < w.heap.size
  ent : ∀ (v u : Value) (w : World), (callFunc fn (#[v, u] ++ cap)).run Try.prog w = .ok (.enter fn (#[v, u] ++ cap)) w
  call : ∀ (ps : List PartM) (u v : Nat) (w : World), ps.length ≤ 40 → Ok w → Calls Try.prog fn (#[WV ps u, WV ps v] ++ cap) w fun e w' => e = .returned (.bool (S ps u v)) ∧ Below w.heap.size w w'
theorem AskW.below {fn : Nat} {cap : Array Value} {S : List PartM → Nat → Nat → Bool} {M : Nat → Prop} {Ok : World → Prop} (A : AskW fn cap S M Ok) {w w' : World} (h : Ok w) (hb : Below w.heap.size w w') : Ok w' := A.up h fun b hm => hb.block b (A.old h b hm)
set_option maxHeartbeats 1000000 in
theorem next_any (ps : List PartM) (hN : ps.length ≤ 40) (u v : Nat) (w : World) :
    Calls Try.prog 84 #[WV ps u, WV ps v] w fun e w' => e = .returned (.bool (nextB ps u v)) ∧ Below w.heap.size w w' := by
  (have HW : Hid (∀ w, Calls Try.prog 60 #[.int .u64 (bm ps.length (swB ps v) : Nat), .int .u64 (bm ps.length (wnB ps u) : Nat)] w fun e w' => e = .returned (.bool (nextB ps u v)) ∧ w' = w) := fun w => set_within hN _ _ w); unfold WV; generalize nextB ps u v = r at *; generalize bm ps.length (swB ps v) = sv at *; generalize bm ps.length (wnB ps u) = wu at *; generalize bm ps.length (wnB ps v) = wv at *; generalize bm ps.length (swB ps u) = su at *; clear hN
  go_enter Try.func84, Try.ntmps84
  go_wp2_with fail; refine (HW.out _).mono ?_; rintro _ _ ⟨rfl, rfl⟩; go_wp2_with fail; go_ret; exact ⟨rfl, below_more (below_more (Below.refl _ _) _) _⟩
theorem frames1_in (cap : Array Value) (w : World) : (callFunc 84 cap).run Try.prog w = .ok (.enter 84 cap) w := by simp [go_sem]
theorem frames2_in (cap : Array Value) (w : World) : (callFunc 85 cap).run Try.prog w = .ok (.enter 85 cap) w := by simp [go_sem]
theorem frames3_in (cap : Array Value) (w : World) : (callFunc 86 cap).run Try.prog w = .ok (.enter 86 cap) w := by simp [go_sem]
theorem both1_in (cap : Array Value) (w : World) : (callFunc 106 cap).run Try.prog w = .ok (.enter 106 cap) w := by simp [go_sem]
theorem askNext : AskW 84 #[] nextB (fun _ => False) (fun _ => True) where
  up := fun _ _ => trivial
  old := fun _ _ h => h.elim
  ent := fun _ _ w => frames1_in _ w
  call := fun ps u v w hN _ => next_any ps hN u v w
/-- The block that a closure reads. -/
def OkCW (fn : Nat) (cap : Array Value) (cb : Nat) (Ok : World → Prop) (w : World) : Prop := w.heap[cb]? = some (.cells #[.func (.func fn) #[] cap] 92 (0, 0)) ∧ Ok w
theorem blkC {w : World} {b : Nat} {c0 : Value} {T : TypeId} (h : w.heap[b]? = some (.cells #[c0] T (0, 0))) : w.cell? ⟨b, 0, none⟩ = some c0 := blk_cell h 0
section
variable {fn : Nat} {cap : Array Value} {S : List PartM → Nat → Nat → Bool} {M : Nat → Prop} {Ok : World → Prop}
theorem OkCW.up {w w' : World} {cb : Nat} (A : AskW fn cap S M Ok) (h : OkCW fn cap cb Ok w) (hk : ∀ b, (b = cb ∨ M b) → w'.heap[b]? = w.heap[b]?) : OkCW fn cap cb Ok w' := ⟨(hk cb (Or.inl rfl)).trans h.1, A.up h.2 fun b hb => hk b (Or.inr hb)⟩
theorem OkCW.old {w : World} {cb : Nat} (A : AskW fn cap S M Ok) (h : OkCW fn cap cb Ok w) (b : Nat) (hb : b = cb ∨ M b) : b < w.heap.size := by
  rcases hb with rfl | hb
  · exact lt_of_block h.1
  · exact A.old h.2 b hb
set_option maxRecDepth 10000 in
set_option maxHeartbeats 2000000 in
theorem bynd_any (A : AskW fn cap S M Ok) (cb : Nat) (ps : List PartM) (hN : ps.length ≤ 40) (u v : Nat) (w : World) (hok : OkCW fn cap cb Ok w) :
    Calls Try.prog 85 #[WV ps u, WV ps v, .pointer (some ⟨cb, 0, none⟩)] w fun e w' => e = .returned (.bool (S ps u v && subB ps.length (wnB ps v) (wnB ps u))) ∧ Below w.heap.size w w' := by
  (have HW : Hid (∀ w, Calls Try.prog 60 #[.int .u64 (bm ps.length (wnB ps v) : Nat), .int .u64 (bm ps.length (wnB ps u) : Nat)] w fun e w' => e = .returned (.bool (subB ps.length (wnB ps v) (wnB ps u))) ∧ w' = w) := fun w => set_within hN _ _ w); (have HC : Hid (∀ w, Ok w → Calls Try.prog fn (#[WV ps u, WV ps v] ++ cap) w fun e w' => e = .returned (.bool (S ps u v)) ∧ Below w.heap.size w w') := fun w h => A.call ps u v w hN h); (have HU : Hid (∀ w', Below w.heap.size w w' → OkCW fn cap cb Ok w') := fun w' hb => hok.up A fun b hb' => hb.block b (hok.old A b hb')); have hcf := A.ent; unfold WV at HC ⊢; generalize subB ps.length (wnB ps v) (wnB ps u) = r at *; generalize S ps u v = r1 at *; generalize bm ps.length (swB ps v) = sv at *; generalize bm ps.length (wnB ps u) = wu at *; generalize bm ps.length (wnB ps v) = wv at *; generalize bm ps.length (swB ps u) = su at *; clear hN hok A; obtain ⟨W, hW⟩ : ∃ W, (w.alloc (.cells #[.int .u64 (u : Nat), .int .u64 (wu : Nat), .int .u64 (su : Nat)] 104 (0, 0))).alloc (.cells #[.int .u64 (v : Nat), .int .u64 (wv : Nat), .int .u64 (sv : Nat)] 104 (0, 0)) = W := ⟨_, rfl⟩; (have HB : Hid (Below w.heap.size w W) := by rw [← hW]; exact below_more (below_more (Below.refl _ _) _) _); (have hb1 : W.heap[w.heap.size]? = some (.cells #[.int .u64 (u : Nat), .int .u64 (wu : Nat), .int .u64 (su : Nat)] 104 (0, 0)) := by rw [← hW]; exact alloc_keep (blk_new _ _) _); (have hb2 : W.heap[w.heap.size + 1]? = some (.cells #[.int .u64 (v : Nat), .int .u64 (wv : Nat), .int .u64 (sv : Nat)] 104 (0, 0)) := by rw [← hW]; exact blk_secE _ _ _); have HB1 : Hid (W.heap[w.heap.size]? = some (.cells #[.int .u64 (u : Nat), .int .u64 (wu : Nat), .int .u64 (su : Nat)] 104 (0, 0))) := hb1; have HB2 : Hid (W.heap[w.heap.size + 1]? = some (.cells #[.int .u64 (v : Nat), .int .u64 (wv : Nat), .int .u64 (sv : Nat)] 104 (0, 0))) := hb2; obtain ⟨a0, a1, a2, -⟩ := blk3 hb1; obtain ⟨e0, e1, e2, -⟩ := blk3 hb2; have c0 := blkC (HU.out W HB.out).1; clear hb1 hb2
  go_enter Try.func85, Try.ntmps85
  go_wp2_with fail; refine (HC.out W (HU.out W HB.out).2).mono ?_; rintro _ w1 ⟨rfl, hb1⟩; have HX : Hid (Below w.heap.size w w1) := below_join HB.out hb1; obtain ⟨f0, f1, f2, -⟩ := blk3 (below_keep hb1 HB1.out); obtain ⟨g0, g1, g2, -⟩ := blk3 (below_keep hb1 HB2.out); clear hb1 a0 a1 a2 e0 e1 e2 c0 hW hcf
  cases r1
  · go_wp2_with fail
    go_ret; exact ⟨rfl, HX.out⟩
  · go_wp2_with fail
    refine (HW.out _).mono ?_; rintro _ _ ⟨rfl, rfl⟩; go_wp2_with fail; go_ret; exact ⟨rfl, HX.out⟩
set_option maxRecDepth 10000 in
set_option maxHeartbeats 2000000 in
theorem onw_any (A : AskW fn cap S M Ok) (cb : Nat) (ps : List PartM) (hN : ps.length ≤ 40) (u v : Nat) (w : World) (hok : OkCW fn cap cb Ok w) :
    Calls Try.prog 86 #[WV ps u, WV ps v, .pointer (some ⟨cb, 0, none⟩)] w fun e w' => e = .returned (.bool (S ps u v && !decide (bm ps.length (wnB ps u) = bm ps.length (wnB ps v)))) ∧ Below w.heap.size w w' := by
  (have HC : Hid (∀ w, Ok w → Calls Try.prog fn (#[WV ps u, WV ps v] ++ cap) w fun e w' => e = .returned (.bool (S ps u v)) ∧ Below w.heap.size w w') := fun w h => A.call ps u v w hN h); (have HU : Hid (∀ w', Below w.heap.size w w' → OkCW fn cap cb Ok w') := fun w' hb => hok.up A fun b hb' => hb.block b (hok.old A b hb')); have hcf := A.ent; unfold WV at HC ⊢; generalize S ps u v = r1 at *; generalize bm ps.length (swB ps v) = sv at *; generalize bm ps.length (wnB ps u) = wu at *; generalize bm ps.length (wnB ps v) = wv at *; generalize bm ps.length (swB ps u) = su at *; clear hN hok A; obtain ⟨W, hW⟩ : ∃ W, (w.alloc (.cells #[.int .u64 (u : Nat), .int .u64 (wu : Nat), .int .u64 (su : Nat)] 104 (0, 0))).alloc (.cells #[.int .u64 (v : Nat), .int .u64 (wv : Nat), .int .u64 (sv : Nat)] 104 (0, 0)) = W := ⟨_, rfl⟩; (have HB : Hid (Below w.heap.size w W) := by rw [← hW]; exact below_more (below_more (Below.refl _ _) _) _); (have hb1 : W.heap[w.heap.size]? = some (.cells #[.int .u64 (u : Nat), .int .u64 (wu : Nat), .int .u64 (su : Nat)] 104 (0, 0)) := by rw [← hW]; exact alloc_keep (blk_new _ _) _); (have hb2 : W.heap[w.heap.size + 1]? = some (.cells #[.int .u64 (v : Nat), .int .u64 (wv : Nat), .int .u64 (sv : Nat)] 104 (0, 0)) := by rw [← hW]; exact blk_secE _ _ _); have HB1 : Hid (W.heap[w.heap.size]? = some (.cells #[.int .u64 (u : Nat), .int .u64 (wu : Nat), .int .u64 (su : Nat)] 104 (0, 0))) := hb1; have HB2 : Hid (W.heap[w.heap.size + 1]? = some (.cells #[.int .u64 (v : Nat), .int .u64 (wv : Nat), .int .u64 (sv : Nat)] 104 (0, 0))) := hb2; obtain ⟨a0, a1, a2, -⟩ := blk3 hb1; obtain ⟨e0, e1, e2, -⟩ := blk3 hb2; have c0 := blkC (HU.out W HB.out).1; clear hb1 hb2
  go_enter Try.func86, Try.ntmps86
  go_wp2_with fail; refine (HC.out W (HU.out W HB.out).2).mono ?_; rintro _ w1 ⟨rfl, hb1⟩; have HX : Hid (Below w.heap.size w w1) := below_join HB.out hb1; obtain ⟨f0, f1, f2, -⟩ := blk3 (below_keep hb1 HB1.out); obtain ⟨g0, g1, g2, -⟩ := blk3 (below_keep hb1 HB2.out); clear hb1 a0 a1 a2 e0 e1 e2 c0 hW hcf
  cases r1
  · go_wp2_with fail
    go_ret; exact ⟨rfl, HX.out⟩
  · by_cases hd : wu = wv
    · subst hd
      go_wp2_with fail; go_ret; (exact ⟨by simp, HX.out⟩)
    · have hd2 : ((wu : Int) != (wv : Int)) = true := by simpa using fun e => hd (by exact_mod_cast e)
      go_wp2_with fail; go_ret; (exact ⟨by simp [hd], HX.out⟩)
set_option maxRecDepth 10000 in
set_option maxHeartbeats 2000000 in
theorem bothW_any (A : AskW fn cap S M Ok) (cb : Nat) (ps : List PartM) (hN : ps.length ≤ 40) (u v : Nat) (w : World) (hok : OkCW fn cap cb Ok w) :
    Calls Try.prog 106 #[WV ps u, WV ps v, .pointer (some ⟨cb, 0, none⟩)] w fun e w' => e = .returned (.bool (S ps u v && S ps v u)) ∧ Below w.heap.size w w' := by
  (have HC : Hid (∀ w, Ok w → Calls Try.prog fn (#[WV ps u, WV ps v] ++ cap) w fun e w' => e = .returned (.bool (S ps u v)) ∧ Below w.heap.size w w') := fun w h => A.call ps u v w hN h); (have HD : Hid (∀ w, Ok w → Calls Try.prog fn (#[WV ps v, WV ps u] ++ cap) w fun e w' => e = .returned (.bool (S ps v u)) ∧ Below w.heap.size w w') := fun w h => A.call ps v u w hN h); (have HU : Hid (∀ w', Below w.heap.size w w' → OkCW fn cap cb Ok w') := fun w' hb => hok.up A fun b hb' => hb.block b (hok.old A b hb')); have hcf := A.ent; unfold WV at HC HD ⊢; generalize S ps u v = r1 at *; generalize S ps v u = r2 at *; generalize bm ps.length (swB ps v) = sv at *; generalize bm ps.length (wnB ps u) = wu at *; generalize bm ps.length (wnB ps v) = wv at *; generalize bm ps.length (swB ps u) = su at *; clear hN hok A; obtain ⟨W, hW⟩ : ∃ W, (w.alloc (.cells #[.int .u64 (u : Nat), .int .u64 (wu : Nat), .int .u64 (su : Nat)] 104 (0, 0))).alloc (.cells #[.int .u64 (v : Nat), .int .u64 (wv : Nat), .int .u64 (sv : Nat)] 104 (0, 0)) = W := ⟨_, rfl⟩; (have HB : Hid (Below w.heap.size w W) := by rw [← hW]; exact below_more (below_more (Below.refl _ _) _) _); (have hb1 : W.heap[w.heap.size]? = some (.cells #[.int .u64 (u : Nat), .int .u64 (wu : Nat), .int .u64 (su : Nat)] 104 (0, 0)) := by rw [← hW]; exact alloc_keep (blk_new _ _) _); (have hb2 : W.heap[w.heap.size + 1]? = some (.cells #[.int .u64 (v : Nat), .int .u64 (wv : Nat), .int .u64 (sv : Nat)] 104 (0, 0)) := by rw [← hW]; exact blk_secE _ _ _); have HB1 : Hid (W.heap[w.heap.size]? = some (.cells #[.int .u64 (u : Nat), .int .u64 (wu : Nat), .int .u64 (su : Nat)] 104 (0, 0))) := hb1; have HB2 : Hid (W.heap[w.heap.size + 1]? = some (.cells #[.int .u64 (v : Nat), .int .u64 (wv : Nat), .int .u64 (sv : Nat)] 104 (0, 0))) := hb2; obtain ⟨a0, a1, a2, -⟩ := blk3 hb1; obtain ⟨e0, e1, e2, -⟩ := blk3 hb2; have c0 := blkC (HU.out W HB.out).1; clear hb1 hb2
  go_enter Try.func106, Try.ntmps106
  go_wp2_with fail; refine (HC.out W (HU.out W HB.out).2).mono ?_; rintro _ w1 ⟨rfl, hb1⟩; have HX : Hid (Below w.heap.size w w1) := below_join HB.out hb1; obtain ⟨f0, f1, f2, -⟩ := blk3 (below_keep hb1 HB1.out); obtain ⟨g0, g1, g2, -⟩ := blk3 (below_keep hb1 HB2.out); have c1 := blkC (HU.out w1 HX.out).1; clear hb1 a0 a1 a2 e0 e1 e2 c0 hW
  cases r1
  · go_wp2_with fail
    go_ret; exact ⟨rfl, HX.out⟩
  · go_wp2_with fail
    refine (HD.out _ (HU.out w1 HX.out).2).mono ?_; rintro _ w2 ⟨rfl, hb2⟩; go_wp2_with fail; go_ret; exact ⟨rfl, below_join HX.out hb2⟩
theorem askBynd (A : AskW fn cap S M Ok) (cb : Nat) : AskW 85 #[.pointer (some ⟨cb, 0, none⟩)] (fun ps u v => S ps u v && subB ps.length (wnB ps v) (wnB ps u)) (fun b => b = cb ∨ M b) (OkCW fn cap cb Ok) where
  up := fun h hk => h.up A hk
  old := fun h b hb => h.old A b hb
  ent := fun _ _ w => frames2_in _ w
  call := fun ps u v w hN h => bynd_any A cb ps hN u v w h
theorem askOnw (A : AskW fn cap S M Ok) (cb : Nat) : AskW 86 #[.pointer (some ⟨cb, 0, none⟩)] (fun ps u v => S ps u v && !decide (bm ps.length (wnB ps u) = bm ps.length (wnB ps v))) (fun b => b = cb ∨ M b) (OkCW fn cap cb Ok) where
  up := fun h hk => h.up A hk
  old := fun h b hb => h.old A b hb
  ent := fun _ _ w => frames3_in _ w
  call := fun ps u v w hN h => onw_any A cb ps hN u v w h
theorem askBoth (A : AskW fn cap S M Ok) (cb : Nat) : AskW 106 #[.pointer (some ⟨cb, 0, none⟩)] (fun ps u v => S ps u v && S ps v u) (fun b => b = cb ∨ M b) (OkCW fn cap cb Ok) where
  up := fun h hk => h.up A hk
  old := fun h b hb => h.old A b hb
  ent := fun _ _ w => both1_in _ w
  call := fun ps u v w hN h => bothW_any A cb ps hN u v w h
end
end Go.Proofs.Ytmahgfgndfcmpag
/- Walks: how worlds are compared (the closure of modlog.worldsOf). -/
namespace Go.Proofs.Ytmahgfgndfcmpag
open Go.RowKit Go.Sort

set_option maxRecDepth 10000 in
set_option maxHeartbeats 2000000 in
theorem ones_any (x : Int) (w : World) : Calls Try.prog 133 #[.int .u64 x] w fun e w' => (∃ c, e = .returned (.int .i64 c)) ∧ w' = w := by
  go_enter Try.func133, Try.ntmps133
  go_wp2_with fail; go_ret; exact ⟨⟨_, rfl⟩, rfl⟩
set_option maxHeartbeats 1000000 in
theorem wsize_any (x : Int) (w : World) : Calls Try.prog 113 #[.int .u64 x] w fun e w' => (∃ c, e = .returned (.int .i64 c)) ∧ w' = w := by
  (have HO : Hid (∀ w, Calls Try.prog 133 #[.int .u64 x] w _) := fun w => ones_any x w)
  go_enter Try.func113, Try.ntmps113
  go_wp2_with fail; refine (HO.out _).mono ?_; rintro _ _ ⟨⟨c, rfl⟩, rfl⟩; go_wp2_with fail; go_ret; exact ⟨⟨_, rfl⟩, rfl⟩
theorem nan_any (x : Int) (w : World) : Calls Try.prog 132 #[.int .i64 x] w fun e w' => e = .returned (.bool false) ∧ w' = w := by
  go_enter Try.func132, Try.ntmps132
  go_wp2_with fail; go_ret; exact ⟨rfl, rfl⟩
set_option maxHeartbeats 2000000 in
theorem cmpInt_any (x y : Int) (w : World) : Calls Try.prog 112 #[.int .i64 x, .int .i64 y] w fun e w' => (∃ c, e = .returned (.int .i64 c)) ∧ w' = w := by
  (have HN : Hid (∀ x w, Calls Try.prog 132 #[.int .i64 x] w _) := fun x w => nan_any x w)
  go_enter Try.func112, Try.ntmps112
  go_wp2_with fail; refine (HN.out _ _).mono ?_; rintro _ _ ⟨rfl, rfl⟩; go_wp2_with fail; refine (HN.out _ _).mono ?_; rintro _ _ ⟨rfl, rfl⟩; by_cases h1 : x < y
  · go_wp2_with fail
    go_ret; exact ⟨⟨_, rfl⟩, rfl⟩
  · have h1d : decide (x < y) = false := decide_eq_false h1
    by_cases h2 : y < x
    · go_wp2_with fail
      go_ret; exact ⟨⟨_, rfl⟩, rfl⟩
    · have h2d : decide (y < x) = false := decide_eq_false h2
      go_wp2_with fail; go_ret; exact ⟨⟨_, rfl⟩, rfl⟩
-- closure
def kInt : Value → World → Prop := fun v _ => ∃ c, v = .int .i64 c
theorem kInt_stays : Stays kInt := fun _ _ _ h _ => h
set_option maxRecDepth 10000 in
set_option maxHeartbeats 2000000 in
theorem cmpW_any (ps : List PartM) (u v : Nat) (w : World) : Calls Try.prog 111 #[WV ps u, WV ps v] w fun e w' => (∃ c, e = .returned (.int .i64 c)) ∧ Below w.heap.size w w' := by
  unfold WV; generalize bm ps.length (wnB ps u) = uw; generalize bm ps.length (swB ps u) = us; generalize bm ps.length (wnB ps v) = vw; generalize bm ps.length (swB ps v) = vs; obtain ⟨W, hW⟩ : ∃ W, W = (w.alloc (.cells #[.int .u64 (u : Nat), .int .u64 (uw : Nat), .int .u64 (us : Nat)] 104 (0, 0))).alloc (.cells #[.int .u64 (v : Nat), .int .u64 (vw : Nat), .int .u64 (vs : Nat)] 104 (0, 0)) := ⟨_, rfl⟩; (have HB0 : Hid (Below w.heap.size w W) := by rw [hW]; exact below_more (below_more (Below.refl _ w) _) _); (have HX1 : Hid (W.heap[w.heap.size]? = some (.cells #[.int .u64 (u : Nat), .int .u64 (uw : Nat), .int .u64 (us : Nat)] 104 (0, 0))) := by rw [hW]; exact alloc_keep (blk_new _ _) _); (have HX2 : Hid (W.heap[w.heap.size + 1]? = some (.cells #[.int .u64 (v : Nat), .int .u64 (vw : Nat), .int .u64 (vs : Nat)] 104 (0, 0))) := by rw [hW]; exact blk_secE _ _ _)
  go_enter Try.func111, Try.ntmps111
  go_wp2_with fail; rw [← hW]; clear hW; (refine wp_region_free (by kernel_rfl) [fun v _ => v = (.pointer (some ⟨w.heap.size, 1, none⟩)), fun v _ => v = (.int .u64 (uw : Nat)), kInt, fun v _ => v = (.pointer (some ⟨w.heap.size + 1, 1, none⟩)), fun v _ => v = (.int .u64 (vw : Nat)), kInt, kInt, kInt] ?_ (by kernel_rfl) (by kernel_rfl) 12 rfl (by kernel_rfl) ?_ ?_)
  · intro p hp
    simp only [List.mem_cons, List.not_mem_nil, or_false] at hp
    rcases hp with rfl | rfl | rfl | rfl | rfl | rfl | rfl | rfl
    · exact fun _ _ _ h _ => h
    · exact fun _ _ _ h _ => h
    · exact kInt_stays
    · exact fun _ _ _ h _ => h
    · exact fun _ _ _ h _ => h
    · exact kInt_stays
    · exact kInt_stays
    · exact kInt_stays
  · refine ⟨?_, ?_, ?_, ?_, ?_, ?_, ?_, ?_, trivial⟩
    · intro a wx hB hold hdep K hK
      have t2 : a.tmps[2]? = some (.pointer (some ⟨w.heap.size, 0, none⟩)) := hold.2.2 2 rfl; clear hold hdep; go_simp; exact hK.out _ _ rfl (Below.refl _ _)
    · intro a wx hB hold hdep K hK
      obtain ⟨v5, t5, p5⟩ := hdep 0 rfl _ 5 rfl rfl; have e5 : v5 = (.pointer (some ⟨w.heap.size, 1, none⟩)) := p5; subst e5; obtain ⟨q0, q1, q2, -⟩ := blk3 (below_keep hB HX1.out); clear hold hdep; go_simp; exact hK.out _ _ rfl (Below.refl _ _)
    · intro a wx hB hold hdep K hK
      obtain ⟨v6, t6, p6⟩ := hdep 1 rfl _ 6 rfl rfl; have e6 : v6 = (.int .u64 (uw : Nat)) := p6; subst e6; have HW : Hid (Calls Try.prog 113 #[.int .u64 (uw : Nat)] wx _) := wsize_any _ wx; clear hold hdep; go_simp; refine HW.out.mono ?_; rintro _ w9 ⟨⟨c9, rfl⟩, rfl⟩; go_simp; exact hK.out _ _ ⟨_, rfl⟩ (Below.refl _ _)
    · intro a wx hB hold hdep K hK
      have t3 : a.tmps[3]? = some (.pointer (some ⟨w.heap.size + 1, 0, none⟩)) := hold.2.2 3 rfl; clear hold hdep; go_simp; exact hK.out _ _ rfl (Below.refl _ _)
    · intro a wx hB hold hdep K hK
      obtain ⟨v8, t8, p8⟩ := hdep 3 rfl _ 8 rfl rfl; have e8 : v8 = (.pointer (some ⟨w.heap.size + 1, 1, none⟩)) := p8; subst e8; obtain ⟨q0, q1, q2, -⟩ := blk3 (below_keep hB HX2.out); clear hold hdep; go_simp; exact hK.out _ _ rfl (Below.refl _ _)
    · intro a wx hB hold hdep K hK
      obtain ⟨v9, t9, p9⟩ := hdep 4 rfl _ 9 rfl rfl; have e9 : v9 = (.int .u64 (vw : Nat)) := p9; subst e9; have HW : Hid (Calls Try.prog 113 #[.int .u64 (vw : Nat)] wx _) := wsize_any _ wx; clear hold hdep; go_simp; refine HW.out.mono ?_; rintro _ w9 ⟨⟨c9, rfl⟩, rfl⟩; go_simp; exact hK.out _ _ ⟨_, rfl⟩ (Below.refl _ _)
    · intro a wx hB hold hdep K hK
      obtain ⟨v7, t7, p7⟩ := hdep 2 rfl _ 7 rfl rfl; have P7 : Hid ((kInt) v7 wx) := p7; clear p7; obtain ⟨v10, t10, p10⟩ := hdep 5 rfl _ 10 rfl rfl; have P10 : Hid ((kInt) v10 wx) := p10; clear p10; obtain ⟨c7, rfl⟩ := P7.out; obtain ⟨c10, rfl⟩ := P10.out; clear P7 P10; have HW : Hid (Calls Try.prog 112 #[.int .i64 c7, .int .i64 c10] wx _) := cmpInt_any _ _ wx; clear hold hdep; go_simp; refine HW.out.mono ?_; rintro _ w9 ⟨⟨c9, rfl⟩, rfl⟩; go_simp; exact hK.out _ _ ⟨_, rfl⟩ (Below.refl _ _)
    · intro a wx hB hold hdep K hK
      obtain ⟨v11, t11, p11⟩ := hdep 6 rfl _ 11 rfl rfl; have P11 : Hid ((kInt) v11 wx) := p11; clear p11; clear hold hdep; go_simp; exact hK.out _ _ P11.out (Below.refl _ _)
  · intro a wx hB hold hgot
    obtain ⟨vZ, tvZ, pvZ⟩ := hgot 7 _ 4 rfl rfl; obtain ⟨c, rfl⟩ := pvZ; have HBx : Hid (Below W.heap.size W wx) := hB; obtain ⟨tm, df⟩ := a; (obtain ⟨ys, hys, htm, rfl⟩ := frame_mid2 4 8 (by kernel_rfl) (Nat.le_of_ble_eq_true rfl) hold); obtain ⟨x4, x5, x6, x7, x8, x9, x10, x11, rfl⟩ := rowE8 ys hys; simp only [List.take_succ_cons, List.take_zero, List.drop_succ_cons, List.drop_zero, List.cons_append, List.nil_append] at htm; subst htm; obtain rfl : x4 = _ := someInjM tvZ; clear hys hold hgot tvZ hB; go_wp2_with fail; go_ret; exact ⟨⟨_, rfl⟩, below_join HB0.out HBx.out⟩
theorem worlds1_in (cap : Array Value) (w : World) : (callFunc 111 cap).run Try.prog w = .ok (.enter 111 cap) w := by simp [go_sem]
end Go.Proofs.Ytmahgfgndfcmpag
/- Rows of worlds in memory; two of them change places (slices.swapRangeCmpFunc). -/
namespace Go.Proofs.Ytmahgfgndfcmpag
open Go.RowKit Go.Sort

/-- The cells of worlds. -/
def encW (ps : List PartM) : List Nat → List Value
  | [] => []
  | h :: l => .int .u64 (h : Nat) :: .int .u64 (bm ps.length (wnB ps h) : Nat) :: .int .u64 (bm ps.length (swB ps h) : Nat) :: encW ps l
section
variable {ps : List PartM}
theorem encW_len : ∀ l, (encW ps l).length = l.length * 3
  | [] => rfl
  | h :: l => by rw [encW, List.length_cons, List.length_cons, List.length_cons, encW_len l, List.length_cons]; omega
theorem encW_app : ∀ l l', encW ps (l ++ l') = encW ps l ++ encW ps l'
  | [], _ => rfl
  | h :: l, l' => by rw [List.cons_append, encW, encW_app l l', encW]; rfl
theorem encW_one : ∀ l, ∀ u ∈ encW ps l, u.oneCell' = true
  | [], _, h => by cases h
  | p :: l, u, h => by
    rw [encW] at h
    rcases List.mem_cons.1 h with rfl | h
    · rfl
    rcases List.mem_cons.1 h with rfl | h
    · rfl
    rcases List.mem_cons.1 h with rfl | h
    · rfl
    exact encW_one l u h
theorem encW_at : ∀ (l : List Nat) (j h : Nat), l[j]? = some h → (encW ps l)[j * 3]? = some (.int .u64 (h : Nat)) ∧ (encW ps l)[j * 3 + 1]? = some (.int .u64 (bm ps.length (wnB ps h) : Nat)) ∧ (encW ps l)[j * 3 + 2]? = some (.int .u64 (bm ps.length (swB ps h) : Nat))
  | [], j, h, e => by simp at e
  | p :: l, 0, h, e => by
    simp at e; subst e
    exact ⟨rfl, rfl, rfl⟩
  | p :: l, j + 1, h, e => by
    (have h9 := encW_at l j h (by simpa using e)); (rw [encW, show (j + 1) * 3 = j * 3 + 1 + 1 + 1 by omega]); exact h9
theorem encW_set : ∀ (l : List Nat) (j h : Nat), j < l.length → (((encW ps l).set (j * 3) (.int .u64 (h : Nat))).set (j * 3 + 1) (.int .u64 (bm ps.length (wnB ps h) : Nat))).set (j * 3 + 2) (.int .u64 (bm ps.length (swB ps h) : Nat)) = encW ps (l.set j h)
  | [], j, h, e => by simp at e
  | p :: l, 0, h, _ => by rfl
  | p :: l, j + 1, h, e => by
    (have h9 := encW_set l j h (by simpa using e)); (rw [List.set_cons_succ, encW, encW, show (j + 1) * 3 = j * 3 + 1 + 1 + 1 by omega]); simp only [List.set_cons_succ]; rw [h9]
end
/-- A row of worlds in a block, and what lies behind it. -/
def SRow (ps : List PartM) (w : World) (g : Nat) (l : List Nat) (rest : List Value) : Prop := w.heap[g]? = some (.cells (encW ps l ++ rest).toArray 104 (0, 0))
theorem SRow.cells {ps : List PartM} {w : World} {g : Nat} {l : List Nat} {rest : List Value} (h : SRow ps w g l rest) {j x : Nat} (hj : l[j]? = some x) : w.cell? ⟨g, j * 3, none⟩ = some (.int .u64 (x : Nat)) ∧ w.cell? ⟨g, j * 3 + 1, none⟩ = some (.int .u64 (bm ps.length (wnB ps x) : Nat)) ∧ w.cell? ⟨g, j * 3 + 2, none⟩ = some (.int .u64 (bm ps.length (swB ps x) : Nat)) ∧ w.frozen? ⟨g, j * 3, none⟩ = false ∧ w.frozen? ⟨g, j * 3 + 1, none⟩ = false ∧ w.frozen? ⟨g, j * 3 + 2, none⟩ = false := by
  obtain ⟨a, b, c⟩ := encW_at (ps := ps) l j x hj; have hl := (List.getElem?_eq_some_iff.1 hj).1; have hn := encW_len (ps := ps) l; refine ⟨(blk_cell h _).trans ?_, (blk_cell h _).trans ?_, (blk_cell h _).trans ?_, blk_fz h _, blk_fz h _, blk_fz h _⟩
  · rw [List.getElem?_toArray, List.getElem?_append_left (by omega)]; exact a
  · rw [List.getElem?_toArray, List.getElem?_append_left (by omega)]; exact b
  · rw [List.getElem?_toArray, List.getElem?_append_left (by omega)]; exact c
theorem blk_setW {w : World} {b i : Nat} {cs : Array Value} {T : TypeId} (h : w.heap[b]? = some (.cells cs T (0, 0))) (v : Value) : (w.setCell ⟨b, i, none⟩ v).heap[b]? = some (.cells (cs.setIfInBounds i v) T (0, 0)) := by
  simp [World.setCell, Array.getElem?_modify, h]
theorem SRow.put {ps : List PartM} {w : World} {g : Nat} {l : List Nat} {rest : List Value} (h : SRow ps w g l rest) {j : Nat} (hj : j < l.length) (x : Nat) : SRow ps (((w.setCell ⟨g, j * 3, none⟩ (.int .u64 (x : Nat))).setCell ⟨g, j * 3 + 1, none⟩ (.int .u64 (bm ps.length (wnB ps x) : Nat))).setCell ⟨g, j * 3 + 2, none⟩ (.int .u64 (bm ps.length (swB ps x) : Nat))) g (l.set j x) rest := by
  have hn := encW_len (ps := ps) l; unfold SRow; rw [blk_setW (blk_setW (blk_setW h _) _) _]
  congr 2
  apply Array.ext'; simp only [Array.toList_setIfInBounds]; (rw [List.set_append_left _ _ (by omega), List.set_append_left _ _ (by simp; omega), List.set_append_left _ _ (by simp; omega), encW_set l j x hj])
theorem swap_perm {l : List Nat} {i j x y : Nat} (hi : l[i]? = some x) (hj : l[j]? = some y) : ((l.set i y).set j x).Perm l := by
  have hil := (List.getElem?_eq_some_iff.1 hi).1; have hjl := (List.getElem?_eq_some_iff.1 hj).1; rw [List.perm_iff_count]; intro a; by_cases e : i = j
  · subst e
    rw [hi] at hj; have : x = y := Option.some.inj hj; subst this; rw [List.set_set]
    have : l.set i x = l := by
      apply List.ext_getElem?; intro n; by_cases h : i = n
      · subst h; rw [List.getElem?_set_self hil, hi]
      · rw [List.getElem?_set_ne h]
    rw [this]
  · have h1 : (l.set i y)[j]? = some y := by rw [List.getElem?_set_ne e]; exact hj
    have e1 : l[i] = x := (List.getElem?_eq_some_iff.1 hi).2; (have e2 : (l.set i y)[j]'(by simpa using hjl) = y := (List.getElem?_eq_some_iff.1 h1).2); (rw [List.count_set (by simpa using hjl), List.count_set hil, e1, e2])
    have hx : (x == a) = true → 0 < l.count a := fun h => by
      (have : x = a := by simpa using h); rw [← this]; exact List.count_pos_iff.2 (List.mem_of_getElem? hi)
    (by_cases hxa : (x == a) = true <;> by_cases hya : (y == a) = true <;> simp [hxa, hya] <;> try (have := hx hxa; omega))
theorem Kept.set {g i : Nat} {w w' : World} (h : Kept (fun b => b ≠ g) w w') (v : Value) : Kept (fun b => b ≠ g) w (w'.setCell ⟨g, i, none⟩ v) := by
  (refine ⟨h.os, h.tape, h.output, ?_, fun k hk hne => ?_⟩)
  · simp only [World.setCell, Array.size_modify]; exact h.size
  · rw [farM hne]; exact h.block k hk hne
theorem Kept.drewK {ok : Nat → Prop} {w w' : World} (h : Kept ok w w') : Kept ok w w'.drew := ⟨h.os, h.tape, h.output, h.size, h.block⟩
/-- What a sort leaves: the row in another order, all else as it was. -/
def SortP (ps : List PartM) (g : Nat) (l : List Nat) (rest : List Value) (w : World) (e : Ending) (w' : World) : Prop := ∃ l', l'.Perm l ∧ e = .returned (.tuple #[]) ∧ SRow ps w' g l' rest ∧ Kept (fun b => b ≠ g) w w'
set_option maxRecDepth 10000 in
set_option maxHeartbeats 4000000 in
theorem swapRange_any {ps : List PartM} (g cap : Nat) (f : Value) (rest : List Value) (l : List Nat) (hl : l.length ≤ 100000) (hc : l.length ≤ cap) (a b n : Nat) (ha : a + n ≤ l.length) (hb : b + n ≤ l.length) (w : World) (hr : SRow ps w g l rest) :
    Calls Try.prog 145 #[.slice (some ⟨g, 0, none⟩) l.length cap, .int .i64 (a : Nat), .int .i64 (b : Nat), .int .i64 (n : Nat), f] w fun e w' => SortP ps g l rest w e w' := by
  have HR : Hid (SRow ps w g l rest) := hr; (have hlI : (l.length : Int) ≤ 100000 := by omega); (have hcI : (l.length : Int) ≤ (cap : Int) := by omega); (have haI : (a : Int) + (n : Int) ≤ (l.length : Int) := by omega); (have hbI : (b : Int) + (n : Int) ≤ (l.length : Int) := by omega); clear hr
  go_enter Try.func145, Try.ntmps145
  go_wp2_with fail
  go_loopg [10] n (fun gg c wr => ∃ i l', i ≤ n ∧ gg = n - i ∧ c = .int .i64 (i : Nat) ∧ Hid (l'.Perm l) ∧ Hid (SRow ps wr g l' rest) ∧ Hid (Kept (fun b => b ≠ g) w wr))
  case atStart => exact ⟨0, l, by omega, by omega, rfl, List.Perm.refl _, HR, Kept.refl _ _⟩
  case round =>
    obtain ⟨i, l', hi, hg, rfl, HP, HR', HK⟩ := hrel; have HGk : Hid (gk = n - i) := hg; clear hg; by_cases hlt : i < n
    · have hltI : (i : Int) < (n : Int) := by omega
      have HI : Hid (i < n) := hlt; have hll := HP.out.length_eq; (obtain ⟨x, hx⟩ : ∃ x, l'[a + i]? = some x := ⟨_, List.getElem?_eq_getElem (by omega)⟩); (obtain ⟨y, hy⟩ : ∃ y, l'[b + i]? = some y := ⟨_, List.getElem?_eq_getElem (by omega)⟩); obtain ⟨x0, x1, x2, x3, x4, x5⟩ := HR'.out.cells hx; obtain ⟨y0, y1, y2, y3, y4, y5⟩ := HR'.out.cells hy; clear hlt hi hll; (have hp := HR'.out.put (j := a + i) (by have := HP.out.length_eq; omega) y); (obtain ⟨z, hz⟩ : ∃ z, (l'.set (a + i) y)[b + i]? = some z := ⟨_, List.getElem?_eq_getElem (by have := HP.out.length_eq; simp; omega)⟩); obtain ⟨z0, z1, z2, z3, z4, z5⟩ := hp.cells hz; (have hq := hp.put (j := b + i) (by have := HP.out.length_eq; simp; omega) x); obtain ⟨V, hV⟩ : ∃ V, V = ((((((wr).setCell ⟨g, (a + i) * 3, none⟩ (.int .u64 (y : Nat))).setCell ⟨g, (a + i) * 3 + 1, none⟩ (.int .u64 (bm ps.length (wnB ps y) : Nat))).setCell ⟨g, (a + i) * 3 + 2, none⟩ (.int .u64 (bm ps.length (swB ps y) : Nat))).setCell ⟨g, (b + i) * 3, none⟩ (.int .u64 (x : Nat))).setCell ⟨g, (b + i) * 3 + 1, none⟩ (.int .u64 (bm ps.length (wnB ps x) : Nat))).setCell ⟨g, (b + i) * 3 + 2, none⟩ (.int .u64 (bm ps.length (swB ps x) : Nat)) := ⟨_, rfl⟩; (have HQ : Hid (SRow ps V g ((l'.set (a + i) y).set (b + i) x) rest) := by rw [hV]; exact hq); have HS : Hid (((l'.set (a + i) y).set (b + i) x).Perm l) := (swap_perm hx hy).trans HP.out; (have HK2 : Hid (Kept (fun b => b ≠ g) w V) := by rw [hV]; exact (((((HK.out.set _).set _).set _).set _).set _).set _); clear hx hy hp hz hq; go_wp2_with fail
      go_region
      all_goals
        rw [← hV]; clear hV; clear x0 x1 x2 x3 x4 x5 y0 y1 y2 y3 y4 y5 z0 z1 z2 z3 z4 z5; go_wp2_with fail
        go_roundg (n - (i + 1))
        case measure => have := HGk.out; have := HI.out; omega
        case rel => exact ⟨i + 1, _, HI.out, rfl, by go_num, HS, HQ, HK2.out.drewK⟩
    · have hii : i = n := by omega
      subst hii; (have hge : ¬ (i : Int) < (i : Int) := by omega); clear hlt hi; go_wp2_with fail
      go_end0
      exact ⟨l', HP.out, rfl, HR'.out, HK.out⟩
end Go.Proofs.Ytmahgfgndfcmpag
/- Walks: worlds moved in a row (slices.rotateCmpFunc, insertionSortCmpFunc). -/
namespace Go.Proofs.Ytmahgfgndfcmpag
open Go.RowKit Go.Sort

theorem keptW_on {ok ok' : Nat → Prop} {a b c : World} (h : Kept ok a b) (k : Kept ok' b c) (hi : ∀ x, x < a.heap.size → ok x → ok' x) : Kept ok a c :=
  ⟨k.os.trans h.os, k.tape.trans h.tape, k.output.trans h.output, Nat.le_trans h.size k.size, fun x hx ho => (k.block x (Nat.lt_of_lt_of_le hx h.size) (hi x hx ho)).trans (h.block x hx ho)⟩
theorem Kept.belowK {ok : Nat → Prop} {w w1 w' : World} (h : Kept ok w w1) (hb : Below w1.heap.size w1 w') : Kept ok w w' := keptW_on (ok' := fun _ => True) h ⟨hb.os, hb.tape, hb.output, hb.size, fun k hk _ => hb.block k hk⟩ fun _ _ _ => trivial
theorem SRow.up {ps : List PartM} {w w' : World} {g : Nat} {l : List Nat} {rest : List Value} (h : SRow ps w g l rest) (hb : Below w.heap.size w w') : SRow ps w' g l rest := below_keep hb h
theorem rowW17 (l : List Value) (h0 : l.length = 17) : ∃ x0 x1 x2 x3 x4 x5 x6 x7 x8 x9 x10 x11 x12 x13 x14 x15 x16, l = [x0, x1, x2, x3, x4, x5, x6, x7, x8, x9, x10, x11, x12, x13, x14, x15, x16] := by
  obtain ⟨x0, l1, e0, h1⟩ := cons_lenM h0; obtain ⟨x1, l2, e1, h2⟩ := cons_lenM h1; obtain ⟨x2, l3, e2, h3⟩ := cons_lenM h2; obtain ⟨x3, l4, e3, h4⟩ := cons_lenM h3; obtain ⟨x4, l5, e4, h5⟩ := cons_lenM h4; obtain ⟨x5, l6, e5, h6⟩ := cons_lenM h5; obtain ⟨x6, l7, e6, h7⟩ := cons_lenM h6; obtain ⟨x7, l8, e7, h8⟩ := cons_lenM h7; obtain ⟨x8, l9, e8, h9⟩ := cons_lenM h8; obtain ⟨x9, l10, e9, h10⟩ := cons_lenM h9; obtain ⟨x10, l11, e10, h11⟩ := cons_lenM h10; obtain ⟨x11, l12, e11, h12⟩ := cons_lenM h11; obtain ⟨x12, l13, e12, h13⟩ := cons_lenM h12; obtain ⟨x13, l14, e13, h14⟩ := cons_lenM h13; obtain ⟨x14, l15, e14, h15⟩ := cons_lenM h14; obtain ⟨x15, l16, e15, h16⟩ := cons_lenM h15; obtain ⟨x16, l17, e16, h17⟩ := cons_lenM h16; have e17 : l17 = [] := List.length_eq_zero_iff.1 h17; subst e17 e16 e15 e14 e13 e12 e11 e10 e9 e8 e7 e6 e5 e4 e3 e2 e1 e0; exact ⟨x0, x1, x2, x3, x4, x5, x6, x7, x8, x9, x10, x11, x12, x13, x14, x15, x16, rfl⟩
def kBo : Value → World → Prop := fun v _ => ∃ hi9, v = .bool hi9
theorem kBo_stays : Stays kBo := fun _ _ _ h _ => h
set_option maxRecDepth 10000 in
set_option maxHeartbeats 4000000 in
theorem rotate_any {ps : List PartM} (g cap : Nat) (f : Value) (rest : List Value) (l : List Nat) (hl : l.length ≤ 100000) (hc : l.length ≤ cap) (a m b : Nat) (ham : a < m) (hmb : m < b) (hbl : b ≤ l.length) (w : World) (hr : SRow ps w g l rest) :
    Calls Try.prog 144 #[.slice (some ⟨g, 0, none⟩) l.length cap, .int .i64 (a : Nat), .int .i64 (m : Nat), .int .i64 (b : Nat), f] w fun e w' => SortP ps g l rest w e w' := by
  have HR : Hid (SRow ps w g l rest) := hr
  have HSw : Hid (∀ (l1 : List Nat) (x y n : Nat) (W : World), l1.Perm l → x + n ≤ l.length → y + n ≤ l.length → SRow ps W g l1 rest → Calls Try.prog 145 #[.slice (some ⟨g, 0, none⟩) l.length cap, .int .i64 (x : Nat), .int .i64 (y : Nat), .int .i64 (n : Nat), f] W fun e w' => SortP ps g l1 rest W e w') := fun l1 x y n W hp h1 h2 h3 => by
    (have := swapRange_any (ps := ps) g cap f rest l1 (by rw [hp.length_eq]; exact hl) (by rw [hp.length_eq]; exact hc) x y n (by rw [hp.length_eq]; exact h1) (by rw [hp.length_eq]; exact h2) W h3)
    rwa [hp.length_eq] at this
  (have hlI : (l.length : Int) ≤ 100000 := by omega); (have hbI : (b : Int) ≤ 100000 := by omega); (have hmI : (m : Int) ≤ 100000 := by omega); (have hma : (m : Int) - (a : Int) = ((m - a : Nat) : Int) := by omega); (have hbm : (b : Int) - (m : Int) = ((b - m : Nat) : Int) := by omega); obtain ⟨i0, hi0⟩ : ∃ i0, i0 = m - a := ⟨_, rfl⟩; obtain ⟨j0, hj0⟩ : ∃ j0, j0 = b - m := ⟨_, rfl⟩; rw [← hi0] at hma; rw [← hj0] at hbm; (have HI0 : Hid (1 ≤ i0 ∧ 1 ≤ j0 ∧ i0 ≤ m ∧ m + j0 = b ∧ m < b ∧ b ≤ l.length ∧ l.length ≤ 100000) := by show _ ∧ _; omega); (have hi0I : (i0 : Int) ≤ 100000 := by omega); (have hj0I : (j0 : Int) ≤ 100000 := by omega); clear hr hi0 hj0 hl hc ham hmb hbl
  go_enter Try.func144, Try.ntmps144
  go_wp2_with fail; clear hma hbm
  go_loopg [10, 11] (i0 + j0) (fun gg c d wr => ∃ i j l', gg = i + j ∧ c = .int .i64 (i : Nat) ∧ d = .int .i64 (j : Nat) ∧ Hid (1 ≤ i ∧ 1 ≤ j ∧ i ≤ i0 ∧ j ≤ j0) ∧ Hid (l'.Perm l) ∧ Hid (SRow ps wr g l' rest) ∧ Hid (Kept (fun b => b ≠ g) w wr))
  case atStart => exact ⟨i0, j0, l, rfl, rfl, rfl, ⟨HI0.out.1, HI0.out.2.1, Nat.le_refl _, Nat.le_refl _⟩, List.Perm.refl _, HR, Kept.refl _ _⟩
  case round =>
    obtain ⟨i, j, l', hg, rfl, rfl, HIJ, HP, HR', HK⟩ := hrel; have HGk : Hid (gk = i + j) := hg; (have hiI : (i : Int) ≤ 100000 := by have := HI0.out; have := HIJ.out; omega); (have hjI : (j : Int) ≤ 100000 := by have := HI0.out; have := HIJ.out; omega); obtain ⟨p, hp⟩ : ∃ p, p = m - i := ⟨_, rfl⟩; (have HPm : Hid (p + i = m) := by have := HI0.out; have := HIJ.out; show _ = _; omega); (have hmp : (m : Int) - (i : Int) = (p : Int) := by have := HPm.out; omega); (have hpI : (p : Int) ≤ 100000 := by have := HPm.out; omega); clear hg hp
    rcases Nat.lt_trichotomy i j with hij | hij | hij
    · have hne : ((i : Int) != (j : Int)) = true := by simp; omega
      (have hgt : decide ((j : Int) < (i : Int)) = false := decide_eq_false (by omega)); obtain ⟨q, hq⟩ : ∃ q, q = m + j - i := ⟨_, rfl⟩; (have hqq : (m : Int) + (j : Int) - (i : Int) = (q : Int) := by omega); (have hji : (j : Int) - (i : Int) = ((j - i : Nat) : Int) := by omega); obtain ⟨jn, hjn⟩ : ∃ jn, jn = j - i := ⟨_, rfl⟩; rw [← hjn] at hji; (have hjnI : (jn : Int) ≤ 100000 := by omega); have HQ : Hid (q = m + j - i ∧ jn = j - i ∧ i < j) := ⟨hq, hjn, hij⟩; clear hq hjn hij; go_wp2_with fail; (refine (HSw.out l' p q i wr HP.out (by have := HI0.out; have := HIJ.out; have := HPm.out; omega) (by have := HI0.out; have := HIJ.out; have := HQ.out; omega) HR'.out).mono ?_); rintro _ w1 ⟨l1, h1, rfl, h3, h4⟩; have HP1 : Hid (l1.Perm l) := h1.trans HP.out; have HR1 : Hid (SRow ps w1 g l1 rest) := h3; (have HK1 : Hid (Kept (fun b => b ≠ g) w w1) := keptW_on HK.out h4 fun _ _ h => h); clear h1 h3 h4; go_wp2_with fail
      go_roundg (i + jn)
      case measure => have := HGk.out; have := HQ.out; have := HIJ.out; omega
      case rel => exact ⟨i, jn, l1, rfl, rfl, rfl, by have := HIJ.out; have := HQ.out; show _ ∧ _; omega, HP1, HR1, HK1⟩
    · subst hij
      (have hne : ((i : Int) != (i : Int)) = false := by simp); go_wp2_with fail; (refine (HSw.out l' p m i wr HP.out (by have := HI0.out; have := HIJ.out; have := HPm.out; omega) (by have := HI0.out; have := HIJ.out; omega) HR'.out).mono ?_); rintro _ w1 ⟨l1, h1, rfl, h3, h4⟩; have HP1 : Hid (l1.Perm l) := h1.trans HP.out; have HR1 : Hid (SRow ps w1 g l1 rest) := h3; (have HK1 : Hid (Kept (fun b => b ≠ g) w w1) := keptW_on HK.out h4 fun _ _ h => h); clear h1 h3 h4; go_wp2_with fail
      go_end0
      exact ⟨l1, HP1.out, rfl, HR1.out, HK1.out⟩
    · have hne : ((i : Int) != (j : Int)) = true := by simp; omega
      (have hgt : (j : Int) < (i : Int) := by omega); (have hji : (i : Int) - (j : Int) = ((i - j : Nat) : Int) := by omega); obtain ⟨jn, hjn⟩ : ∃ jn, jn = i - j := ⟨_, rfl⟩; rw [← hjn] at hji; (have hjnI : (jn : Int) ≤ 100000 := by omega); have HQ : Hid (jn = i - j ∧ j < i) := ⟨hjn, hij⟩; clear hjn hij; go_wp2_with fail; (refine (HSw.out l' p m j wr HP.out (by have := HI0.out; have := HIJ.out; have := HPm.out; have := HQ.out; omega) (by have := HI0.out; have := HIJ.out; omega) HR'.out).mono ?_); rintro _ w1 ⟨l1, h1, rfl, h3, h4⟩; have HP1 : Hid (l1.Perm l) := h1.trans HP.out; have HR1 : Hid (SRow ps w1 g l1 rest) := h3; (have HK1 : Hid (Kept (fun b => b ≠ g) w w1) := keptW_on HK.out h4 fun _ _ h => h); clear h1 h3 h4; go_wp2_with fail
      go_roundg (jn + j)
      case measure => have := HGk.out; have := HQ.out; have := HIJ.out; omega
      case rel => exact ⟨jn, j, l1, rfl, rfl, rfl, by have := HIJ.out; have := HQ.out; show _ ∧ _; omega, HP1, HR1, HK1⟩
set_option maxRecDepth 10000 in
set_option maxHeartbeats 8000000 in
theorem insertW_any {ps : List PartM} (g cap : Nat) (rest : List Value) (l : List Nat) (hl : l.length ≤ 100000) (hc : l.length ≤ cap) (lo hi9 : Nat) (hal : lo ≤ l.length) (hbl : hi9 ≤ l.length) (w : World) (hr : SRow ps w g l rest) :
    Calls Try.prog 141 #[.slice (some ⟨g, 0, none⟩) l.length cap, .int .i64 (lo : Nat), .int .i64 (hi9 : Nat), .func (.func 111) #[] #[]] w fun e w' => SortP ps g l rest w e w' := by
  have HR : Hid (SRow ps w g l rest) := hr; (have HCm : Hid (∀ u v W, Calls Try.prog 111 #[WV ps u, WV ps v] W _) := fun u v W => cmpW_any ps u v W); have hcf := worlds1_in; (have hlI : (l.length : Int) ≤ 100000 := by omega); (have hcI : (l.length : Int) ≤ (cap : Int) := by omega); (have hbI : (hi9 : Int) ≤ (l.length : Int) := by omega); (have haI : (lo : Int) ≤ (l.length : Int) := by omega); have HBL : Hid (hi9 ≤ l.length ∧ l.length ≤ cap ∧ l.length ≤ 100000 ∧ lo ≤ l.length) := ⟨hbl, hc, hl, hal⟩; unfold WV at HCm; clear hr hl hc hal hbl
  go_enter Try.func141, Try.ntmps141
  go_wp2_with fail
  go_loopg [8] (hi9 - (lo + 1)) (fun gg c wr => ∃ i l', lo + 1 ≤ i ∧ gg = hi9 - i ∧ c = .int .i64 (i : Nat) ∧ i ≤ l.length + 1 ∧ Hid (l'.Perm l) ∧ Hid (SRow ps wr g l' rest) ∧ Hid (Kept (fun b => b ≠ g) w wr))
  case atStart => exact ⟨lo + 1, l, by omega, by omega, by go_num, by have := HBL.out; omega, List.Perm.refl _, HR, Kept.refl _ _⟩
  case round =>
    obtain ⟨i, l', hi, hg, rfl, hi2, HP, HR', HK⟩ := hrel; have HGk : Hid (gk = hi9 - i) := hg; clear hg; by_cases hlt : i < hi9
    case neg =>
      (have hge : decide (i < hi9) = false := decide_eq_false (by omega)); clear hlt hi hi2; go_wp2_with fail
      go_end0
      exact ⟨l', HP.out, rfl, HR'.out, HK.out⟩
    (have hltI : (i : Int) < (hi9 : Int) := by omega); have HI : Hid (i < hi9 ∧ lo + 1 ≤ i) := ⟨hlt, hi⟩; (have hiI : (i : Int) ≤ 100000 := by omega); clear hlt hi hi2; go_wp2_with fail
    go_loopg [9] i (fun gg c wr => ∃ j l1, lo ≤ j ∧ j ≤ i ∧ gg = j ∧ c = .int .i64 (j : Nat) ∧ Hid (l1.Perm l) ∧ Hid (SRow ps wr g l1 rest) ∧ Hid (Kept (fun b => b ≠ g) w wr))
    case atStart => exact ⟨i, l', by have := HI.out; omega, by omega, rfl, rfl, HP, HR', HK⟩
    case round =>
      obtain ⟨j, l1, hj, hji, hg, rfl, HP1, HR1, HK1⟩ := hrel; have HGj : Hid (gk = j) := hg; have HJ : Hid (lo ≤ j ∧ j ≤ i) := ⟨hj, hji⟩; (have hjI : (j : Int) ≤ 100000 := by omega); clear hg; by_cases hja : lo < j
      case neg =>
        (have hgt : decide (lo < j) = false := decide_eq_false (by omega)); clear hj hji hja; go_wp2_with fail; (refine wp_region_free (by kernel_rfl) [fun v _ => v = (.int .i64 (j : Nat)), fun v _ => v = (.int .i64 (lo : Nat)), fun v _ => v = (.bool false), fun v _ => v = (.bool false), fun _ _ => True, fun _ _ => True, fun _ _ => True, fun _ _ => True, fun _ _ => True, fun _ _ => True, fun _ _ => True, fun _ _ => True, fun _ _ => True, fun _ _ => True, fun _ _ => True, fun _ _ => True, fun v _ => v = (.bool false)] ?_ (by kernel_rfl) (by kernel_rfl) 53 rfl (by kernel_rfl) ?_ ?_)
        · intro p hp
          simp only [List.mem_cons, List.not_mem_nil, or_false] at hp
          rcases hp with rfl | rfl | rfl | rfl | rfl | rfl | rfl | rfl | rfl | rfl | rfl | rfl | rfl | rfl | rfl | rfl | rfl
          · exact fun _ _ _ h _ => h
          · exact fun _ _ _ h _ => h
          · exact fun _ _ _ h _ => h
          · exact fun _ _ _ h _ => h
          · exact fun _ _ _ h _ => h
          · exact fun _ _ _ h _ => h
          · exact fun _ _ _ h _ => h
          · exact fun _ _ _ h _ => h
          · exact fun _ _ _ h _ => h
          · exact fun _ _ _ h _ => h
          · exact fun _ _ _ h _ => h
          · exact fun _ _ _ h _ => h
          · exact fun _ _ _ h _ => h
          · exact fun _ _ _ h _ => h
          · exact fun _ _ _ h _ => h
          · exact fun _ _ _ h _ => h
          · exact fun _ _ _ h _ => h
        · refine ⟨?_, ?_, ?_, ?_, ?_, ?_, ?_, ?_, ?_, ?_, ?_, ?_, ?_, ?_, ?_, ?_, ?_, trivial⟩
          · intro a wx hB hold hdep K hK
            have t9 : a.tmps[9]? = some (.int .i64 (j : Nat)) := hold.2.2 9 rfl; clear hold hdep; go_simp; exact hK.out _ _ rfl (Below.refl _ _)
          · intro a wx hB hold hdep K hK
            have t1 : a.tmps[1]? = some (.int .i64 (lo : Nat)) := hold.2.2 1 rfl; clear hold hdep; go_simp; exact hK.out _ _ rfl (Below.refl _ _)
          · intro a wx hB hold hdep K hK
            obtain ⟨v18, t18, p18⟩ := hdep 0 rfl _ 18 rfl rfl; have e18 : v18 = (.int .i64 (j : Nat)) := p18; subst e18; obtain ⟨v19, t19, p19⟩ := hdep 1 rfl _ 19 rfl rfl; have e19 : v19 = (.int .i64 (lo : Nat)) := p19; subst e19; have h9 := hgt; clear hold hdep; go_simp; exact hK.out _ _ rfl (Below.refl _ _)
          · intro a wx hB hold hdep K hK
            obtain ⟨v20, t20, p20⟩ := hdep 2 rfl _ 20 rfl rfl; have e20 : v20 = (.bool false) := p20; subst e20; clear hold hdep; go_simp; exact hK.out _ _ rfl (Below.refl _ _)
          · intro a wx hB hold hdep K hK
            obtain ⟨v21, t21, p21⟩ := hdep 3 rfl _ 21 rfl rfl; have e21 : v21 = (.bool false) := p21; subst e21; clear hold hdep; go_simp; exact hK.out _ _ trivial (Below.refl _ _)
          · intro a wx hB hold hdep K hK
            obtain ⟨v21, t21, p21⟩ := hdep 3 rfl _ 21 rfl rfl; have e21 : v21 = (.bool false) := p21; subst e21; clear hold hdep; go_simp; exact hK.out _ _ trivial (Below.refl _ _)
          · intro a wx hB hold hdep K hK
            obtain ⟨v21, t21, p21⟩ := hdep 3 rfl _ 21 rfl rfl; have e21 : v21 = (.bool false) := p21; subst e21; clear hold hdep; go_simp; exact hK.out _ _ trivial (Below.refl _ _)
          · intro a wx hB hold hdep K hK
            obtain ⟨v21, t21, p21⟩ := hdep 3 rfl _ 21 rfl rfl; have e21 : v21 = (.bool false) := p21; subst e21; clear hold hdep; go_simp; exact hK.out _ _ trivial (Below.refl _ _)
          · intro a wx hB hold hdep K hK
            obtain ⟨v21, t21, p21⟩ := hdep 3 rfl _ 21 rfl rfl; have e21 : v21 = (.bool false) := p21; subst e21; clear hold hdep; go_simp; exact hK.out _ _ trivial (Below.refl _ _)
          · intro a wx hB hold hdep K hK
            obtain ⟨v21, t21, p21⟩ := hdep 3 rfl _ 21 rfl rfl; have e21 : v21 = (.bool false) := p21; subst e21; clear hold hdep; go_simp; exact hK.out _ _ trivial (Below.refl _ _)
          · intro a wx hB hold hdep K hK
            obtain ⟨v21, t21, p21⟩ := hdep 3 rfl _ 21 rfl rfl; have e21 : v21 = (.bool false) := p21; subst e21; clear hold hdep; go_simp; exact hK.out _ _ trivial (Below.refl _ _)
          · intro a wx hB hold hdep K hK
            obtain ⟨v21, t21, p21⟩ := hdep 3 rfl _ 21 rfl rfl; have e21 : v21 = (.bool false) := p21; subst e21; clear hold hdep; go_simp; exact hK.out _ _ trivial (Below.refl _ _)
          · intro a wx hB hold hdep K hK
            obtain ⟨v21, t21, p21⟩ := hdep 3 rfl _ 21 rfl rfl; have e21 : v21 = (.bool false) := p21; subst e21; clear hold hdep; go_simp; exact hK.out _ _ trivial (Below.refl _ _)
          · intro a wx hB hold hdep K hK
            obtain ⟨v21, t21, p21⟩ := hdep 3 rfl _ 21 rfl rfl; have e21 : v21 = (.bool false) := p21; subst e21; clear hold hdep; go_simp; exact hK.out _ _ trivial (Below.refl _ _)
          · intro a wx hB hold hdep K hK
            obtain ⟨v21, t21, p21⟩ := hdep 3 rfl _ 21 rfl rfl; have e21 : v21 = (.bool false) := p21; subst e21; clear hold hdep; go_simp; exact hK.out _ _ trivial (Below.refl _ _)
          · intro a wx hB hold hdep K hK
            obtain ⟨v21, t21, p21⟩ := hdep 3 rfl _ 21 rfl rfl; have e21 : v21 = (.bool false) := p21; subst e21; clear hold hdep; go_simp; exact hK.out _ _ trivial (Below.refl _ _)
          · intro a wx hB hold hdep K hK
            obtain ⟨v21, t21, p21⟩ := hdep 3 rfl _ 21 rfl rfl; have e21 : v21 = (.bool false) := p21; subst e21; clear hold hdep; go_simp; exact hK.out _ _ rfl (Below.refl _ _)
        · intro a wx hB hold hgot
          obtain ⟨vZ, tvZ, pvZ⟩ := hgot 16 _ 34 rfl rfl; have evZ : vZ = (.bool false) := pvZ; subst evZ; have HBx : Hid (Below wr.heap.size wr wx) := hB; obtain ⟨tm, df⟩ := a; (obtain ⟨ys, hys, htm, rfl⟩ := frame_mid2 18 17 (by kernel_rfl) (Nat.le_of_ble_eq_true rfl) hold); obtain ⟨x18, x19, x20, x21, x22, x23, x24, x25, x26, x27, x28, x29, x30, x31, x32, x33, x34, rfl⟩ := rowW17 ys hys; simp only [List.take_succ_cons, List.take_zero, List.drop_succ_cons, List.drop_zero, List.cons_append, List.nil_append] at htm; subst htm; obtain rfl : x34 = _ := someInjM tvZ; clear hys hold hgot tvZ hB; (have HK2 : Hid (Kept (fun b => b ≠ g) w wx) := HK1.out.belowK HBx.out); have HR2 : Hid (SRow ps wx g l1 rest) := HR1.out.up HBx.out; clear HBx hgt; go_wp2_with fail
          go_roundg (hi9 - (i + 1))
          case measure => have := HGk.out; have := HI.out; omega
          case rel => exact ⟨i + 1, l1, by have := HI.out; omega, rfl, by go_num, by have := HI.out; have := HBL.out; omega, HP1, HR2, HK2⟩
      (obtain ⟨q, hq⟩ : ∃ q, j = q + 1 := ⟨j - 1, by omega⟩); have hgt : decide (lo < j) = true := decide_eq_true hja; (have hql : j < l1.length := by have := HP1.out.length_eq; have := HI.out; have := HBL.out; omega); obtain ⟨xa, hxa⟩ : ∃ x, l1[j]? = some x := ⟨_, List.getElem?_eq_getElem hql⟩; (obtain ⟨xb, hxb⟩ : ∃ x, l1[q]? = some x := ⟨_, List.getElem?_eq_getElem (by omega)⟩); have HXa : Hid (l1[j]? = some xa) := hxa; have HXb : Hid (l1[q]? = some xb) := hxb; have HQa : Hid (lo < j ∧ j = q + 1) := ⟨hja, hq⟩; (have hjq : (j : Int) - 1 = (q : Int) := by omega); (have hq1 : (j : Int) < (l.length : Int) := by have := HP1.out.length_eq; omega); (have hq2 : (q : Int) < (l.length : Int) := by omega); (have hq3 : (j : Int) < (cap : Int) := by omega); (have hq4 : (q : Int) < (cap : Int) := by omega); (have hq5 : IntKind.i64.wrap (q : Int) = (q : Int) := wrap_small q (by omega)); have HQl : Hid (j < l1.length) := hql; clear hq; clear hj hji hja hxa hxb hql; go_wp2_with fail; (refine wp_region_free (by kernel_rfl) [fun v _ => v = (.int .i64 (j : Nat)), fun v _ => v = (.int .i64 (lo : Nat)), fun v _ => v = (.bool true), fun v _ => v = (.bool true), fun v _ => v = (.func (.func 111) #[] #[]), fun v _ => v = (.slice (some ⟨g, 0, none⟩) l.length cap), fun v _ => v = (.int .i64 (j : Nat)), fun v _ => v = (.pointer (some ⟨g, j * 3, none⟩)), fun v _ => v = (.agg #[.int .u64 (xa : Nat), .int .u64 (bm ps.length (wnB ps xa) : Nat), .int .u64 (bm ps.length (swB ps xa) : Nat)]), fun v _ => v = (.slice (some ⟨g, 0, none⟩) l.length cap), fun v _ => v = (.int .i64 (j : Nat)), fun v _ => v = (.int .i64 (q : Nat)), fun v _ => v = (.pointer (some ⟨g, q * 3, none⟩)), fun v _ => v = (.agg #[.int .u64 (xb : Nat), .int .u64 (bm ps.length (wnB ps xb) : Nat), .int .u64 (bm ps.length (swB ps xb) : Nat)]), kInt, kBo, kBo] ?_ (by kernel_rfl) (by kernel_rfl) 53 rfl (by kernel_rfl) ?_ ?_)
      · intro p hp
        simp only [List.mem_cons, List.not_mem_nil, or_false] at hp
        rcases hp with rfl | rfl | rfl | rfl | rfl | rfl | rfl | rfl | rfl | rfl | rfl | rfl | rfl | rfl | rfl | rfl | rfl
        · exact fun _ _ _ h _ => h
        · exact fun _ _ _ h _ => h
        · exact fun _ _ _ h _ => h
        · exact fun _ _ _ h _ => h
        · exact fun _ _ _ h _ => h
        · exact fun _ _ _ h _ => h
        · exact fun _ _ _ h _ => h
        · exact fun _ _ _ h _ => h
        · exact fun _ _ _ h _ => h
        · exact fun _ _ _ h _ => h
        · exact fun _ _ _ h _ => h
        · exact fun _ _ _ h _ => h
        · exact fun _ _ _ h _ => h
        · exact fun _ _ _ h _ => h
        · exact kInt_stays
        · exact kBo_stays
        · exact kBo_stays
      · refine ⟨?_, ?_, ?_, ?_, ?_, ?_, ?_, ?_, ?_, ?_, ?_, ?_, ?_, ?_, ?_, ?_, ?_, trivial⟩
        · intro a wx hB hold hdep K hK
          have t9 : a.tmps[9]? = some (.int .i64 (j : Nat)) := hold.2.2 9 rfl; clear hold hdep; go_simp; exact hK.out _ _ rfl (Below.refl _ _)
        · intro a wx hB hold hdep K hK
          have t1 : a.tmps[1]? = some (.int .i64 (lo : Nat)) := hold.2.2 1 rfl; clear hold hdep; go_simp; exact hK.out _ _ rfl (Below.refl _ _)
        · intro a wx hB hold hdep K hK
          obtain ⟨v18, t18, p18⟩ := hdep 0 rfl _ 18 rfl rfl; have e18 : v18 = (.int .i64 (j : Nat)) := p18; subst e18; obtain ⟨v19, t19, p19⟩ := hdep 1 rfl _ 19 rfl rfl; have e19 : v19 = (.int .i64 (lo : Nat)) := p19; subst e19; have h9 := hgt; clear hold hdep; go_simp; exact hK.out _ _ rfl (Below.refl _ _)
        · intro a wx hB hold hdep K hK
          obtain ⟨v20, t20, p20⟩ := hdep 2 rfl _ 20 rfl rfl; have e20 : v20 = (.bool true) := p20; subst e20; clear hold hdep; go_simp; exact hK.out _ _ rfl (Below.refl _ _)
        · intro a wx hB hold hdep K hK
          obtain ⟨v21, t21, p21⟩ := hdep 3 rfl _ 21 rfl rfl; have e21 : v21 = (.bool true) := p21; subst e21; have t3 : a.tmps[3]? = some (.func (.func 111) #[] #[]) := hold.2.2 3 rfl; clear hold hdep; go_simp; exact hK.out _ _ rfl (Below.refl _ _)
        · intro a wx hB hold hdep K hK
          obtain ⟨v21, t21, p21⟩ := hdep 3 rfl _ 21 rfl rfl; have e21 : v21 = (.bool true) := p21; subst e21; have t0 : a.tmps[0]? = some (.slice (some ⟨g, 0, none⟩) l.length cap) := hold.2.2 0 rfl; clear hold hdep; go_simp; exact hK.out _ _ rfl (Below.refl _ _)
        · intro a wx hB hold hdep K hK
          obtain ⟨v21, t21, p21⟩ := hdep 3 rfl _ 21 rfl rfl; have e21 : v21 = (.bool true) := p21; subst e21; have t9 : a.tmps[9]? = some (.int .i64 (j : Nat)) := hold.2.2 9 rfl; clear hold hdep; go_simp; exact hK.out _ _ rfl (Below.refl _ _)
        · intro a wx hB hold hdep K hK
          obtain ⟨v21, t21, p21⟩ := hdep 3 rfl _ 21 rfl rfl; have e21 : v21 = (.bool true) := p21; subst e21; obtain ⟨v23, t23, p23⟩ := hdep 5 rfl _ 23 rfl rfl; have e23 : v23 = (.slice (some ⟨g, 0, none⟩) l.length cap) := p23; subst e23; obtain ⟨v24, t24, p24⟩ := hdep 6 rfl _ 24 rfl rfl; have e24 : v24 = (.int .i64 (j : Nat)) := p24; subst e24; clear hold hdep; go_simp; exact hK.out _ _ rfl (Below.refl _ _)
        · intro a wx hB hold hdep K hK
          obtain ⟨v21, t21, p21⟩ := hdep 3 rfl _ 21 rfl rfl; have e21 : v21 = (.bool true) := p21; subst e21; obtain ⟨v25, t25, p25⟩ := hdep 7 rfl _ 25 rfl rfl; have e25 : v25 = (.pointer (some ⟨g, j * 3, none⟩)) := p25; subst e25; obtain ⟨q0, q1, q2, -⟩ := (HR1.out.up hB).cells HXa.out; clear hold hdep; go_simp; exact hK.out _ _ rfl (Below.refl _ _)
        · intro a wx hB hold hdep K hK
          obtain ⟨v21, t21, p21⟩ := hdep 3 rfl _ 21 rfl rfl; have e21 : v21 = (.bool true) := p21; subst e21; have t0 : a.tmps[0]? = some (.slice (some ⟨g, 0, none⟩) l.length cap) := hold.2.2 0 rfl; clear hold hdep; go_simp; exact hK.out _ _ rfl (Below.refl _ _)
        · intro a wx hB hold hdep K hK
          obtain ⟨v21, t21, p21⟩ := hdep 3 rfl _ 21 rfl rfl; have e21 : v21 = (.bool true) := p21; subst e21; have t9 : a.tmps[9]? = some (.int .i64 (j : Nat)) := hold.2.2 9 rfl; clear hold hdep; go_simp; exact hK.out _ _ rfl (Below.refl _ _)
        · intro a wx hB hold hdep K hK
          obtain ⟨v21, t21, p21⟩ := hdep 3 rfl _ 21 rfl rfl; have e21 : v21 = (.bool true) := p21; subst e21; obtain ⟨v28, t28, p28⟩ := hdep 10 rfl _ 28 rfl rfl; have e28 : v28 = (.int .i64 (j : Nat)) := p28; subst e28; clear hold hdep; go_simp; exact hK.out _ _ rfl (Below.refl _ _)
        · intro a wx hB hold hdep K hK
          obtain ⟨v21, t21, p21⟩ := hdep 3 rfl _ 21 rfl rfl; have e21 : v21 = (.bool true) := p21; subst e21; obtain ⟨v27, t27, p27⟩ := hdep 9 rfl _ 27 rfl rfl; have e27 : v27 = (.slice (some ⟨g, 0, none⟩) l.length cap) := p27; subst e27; obtain ⟨v29, t29, p29⟩ := hdep 11 rfl _ 29 rfl rfl; have e29 : v29 = (.int .i64 (q : Nat)) := p29; subst e29; clear hold hdep; go_simp; exact hK.out _ _ rfl (Below.refl _ _)
        · intro a wx hB hold hdep K hK
          obtain ⟨v21, t21, p21⟩ := hdep 3 rfl _ 21 rfl rfl; have e21 : v21 = (.bool true) := p21; subst e21; obtain ⟨v30, t30, p30⟩ := hdep 12 rfl _ 30 rfl rfl; have e30 : v30 = (.pointer (some ⟨g, q * 3, none⟩)) := p30; subst e30; obtain ⟨q0, q1, q2, -⟩ := (HR1.out.up hB).cells HXb.out; clear hold hdep; go_simp; exact hK.out _ _ rfl (Below.refl _ _)
        · intro a wx hB hold hdep K hK
          obtain ⟨v21, t21, p21⟩ := hdep 3 rfl _ 21 rfl rfl; have e21 : v21 = (.bool true) := p21; subst e21; obtain ⟨v22, t22, p22⟩ := hdep 4 rfl _ 22 rfl rfl; have e22 : v22 = (.func (.func 111) #[] #[]) := p22; subst e22; obtain ⟨v26, t26, p26⟩ := hdep 8 rfl _ 26 rfl rfl; have e26 : v26 = (.agg #[.int .u64 (xa : Nat), .int .u64 (bm ps.length (wnB ps xa) : Nat), .int .u64 (bm ps.length (swB ps xa) : Nat)]) := p26; subst e26; obtain ⟨v31, t31, p31⟩ := hdep 13 rfl _ 31 rfl rfl; have e31 : v31 = (.agg #[.int .u64 (xb : Nat), .int .u64 (bm ps.length (wnB ps xb) : Nat), .int .u64 (bm ps.length (swB ps xb) : Nat)]) := p31; subst e31; have HW : Hid (Calls Try.prog 111 #[.agg #[.int .u64 (xa : Nat), .int .u64 (bm ps.length (wnB ps xa) : Nat), .int .u64 (bm ps.length (swB ps xa) : Nat)], .agg #[.int .u64 (xb : Nat), .int .u64 (bm ps.length (wnB ps xb) : Nat), .int .u64 (bm ps.length (swB ps xb) : Nat)]] wx _) := HCm.out xa xb wx; clear hold hdep; go_simp; refine HW.out.mono ?_; rintro _ w9 ⟨⟨c9, rfl⟩, hb9⟩; go_simp; exact hK.out _ _ ⟨_, rfl⟩ hb9
        · intro a wx hB hold hdep K hK
          obtain ⟨v21, t21, p21⟩ := hdep 3 rfl _ 21 rfl rfl; have e21 : v21 = (.bool true) := p21; subst e21; obtain ⟨v32, t32, p32⟩ := hdep 14 rfl _ 32 rfl rfl; have P32 : Hid ((kInt) v32 wx) := p32; clear p32; obtain ⟨c9, rfl⟩ := P32.out; clear P32; clear hold hdep; go_simp; exact hK.out _ _ ⟨_, rfl⟩ (Below.refl _ _)
        · intro a wx hB hold hdep K hK
          obtain ⟨v21, t21, p21⟩ := hdep 3 rfl _ 21 rfl rfl; have e21 : v21 = (.bool true) := p21; subst e21; obtain ⟨v33, t33, p33⟩ := hdep 15 rfl _ 33 rfl rfl; have P33 : Hid ((kBo) v33 wx) := p33; clear p33; obtain ⟨c9, rfl⟩ := P33.out; clear P33; clear hold hdep; go_simp; exact hK.out _ _ ⟨_, rfl⟩ (Below.refl _ _)
      · intro a wx hB hold hgot
        obtain ⟨vZ, tvZ, pvZ⟩ := hgot 16 _ 34 rfl rfl; obtain ⟨bz, rfl⟩ := pvZ; have HBx : Hid (Below wr.heap.size wr wx) := hB; obtain ⟨tm, df⟩ := a; (obtain ⟨ys, hys, htm, rfl⟩ := frame_mid2 18 17 (by kernel_rfl) (Nat.le_of_ble_eq_true rfl) hold); obtain ⟨x18, x19, x20, x21, x22, x23, x24, x25, x26, x27, x28, x29, x30, x31, x32, x33, x34, rfl⟩ := rowW17 ys hys; simp only [List.take_succ_cons, List.take_zero, List.drop_succ_cons, List.drop_zero, List.cons_append, List.nil_append] at htm; subst htm; obtain rfl : x34 = _ := someInjM tvZ; clear hys hold hgot tvZ hB; obtain ⟨VX, hVX⟩ : ∃ V, V = wx := ⟨_, rfl⟩; subst hVX; (have HK2 : Hid (Kept (fun b => b ≠ g) w VX) := HK1.out.belowK HBx.out); have HR2 : Hid (SRow ps VX g l1 rest) := HR1.out.up HBx.out; clear HBx hgt HXa HXb HR1 HK1
        cases bz
        · go_wp2_with fail
          go_roundg (hi9 - (i + 1))
          case measure => have := HGk.out; have := HI.out; omega
          case rel => exact ⟨i + 1, l1, by have := HI.out; omega, rfl, by go_num, by have := HI.out; have := HBL.out; omega, HP1, HR2, HK2⟩
        · have hql := HQl.out
          have hqj := HQa.out.2; (obtain ⟨x, hx⟩ : ∃ x, l1[j]? = some x := ⟨_, List.getElem?_eq_getElem (by have := HP1.out.length_eq; omega)⟩); (obtain ⟨y, hy⟩ : ∃ y, l1[q]? = some y := ⟨_, List.getElem?_eq_getElem (by have := HP1.out.length_eq; omega)⟩); obtain ⟨x0, x1, x2, x3, x4, x5⟩ := HR2.out.cells hx; obtain ⟨y0, y1, y2, y3, y4, y5⟩ := HR2.out.cells hy; (have hp := HR2.out.put (j := j) (by have := HP1.out.length_eq; omega) y); (obtain ⟨z, hz⟩ : ∃ z, (l1.set (j) y)[q]? = some z := ⟨_, List.getElem?_eq_getElem (by have := HP1.out.length_eq; simp; omega)⟩); obtain ⟨z0, z1, z2, z3, z4, z5⟩ := hp.cells hz; (have hq := hp.put (j := q) (by have := HP1.out.length_eq; simp; omega) x); obtain ⟨V, hV⟩ : ∃ V, V = ((((((VX).setCell ⟨g, (j) * 3, none⟩ (.int .u64 (y : Nat))).setCell ⟨g, (j) * 3 + 1, none⟩ (.int .u64 (bm ps.length (wnB ps y) : Nat))).setCell ⟨g, (j) * 3 + 2, none⟩ (.int .u64 (bm ps.length (swB ps y) : Nat))).setCell ⟨g, (q) * 3, none⟩ (.int .u64 (x : Nat))).setCell ⟨g, (q) * 3 + 1, none⟩ (.int .u64 (bm ps.length (wnB ps x) : Nat))).setCell ⟨g, (q) * 3 + 2, none⟩ (.int .u64 (bm ps.length (swB ps x) : Nat)) := ⟨_, rfl⟩; (have HRV : Hid (SRow ps V g ((l1.set (j) y).set (q) x) rest) := by rw [hV]; exact hq); have HPV : Hid (((l1.set (j) y).set (q) x).Perm l) := (swap_perm hx hy).trans HP1.out; (have HKV : Hid (Kept (fun b => b ≠ g) w V) := by rw [hV]; exact (((((HK2.out.set _).set _).set _).set _).set _).set _); clear hx hy hp hz hq; clear hql hqj; go_wp2_with fail
          go_region
          all_goals
            rw [← hV]; clear hV; clear x0 x1 x2 x3 x4 x5 y0 y1 y2 y3 y4 y5 z0 z1 z2 z3 z4 z5; go_wp2_with fail
            go_roundg q
            case measure => have := HGj.out; omega
            case rel => exact ⟨q, _, by have := HQa.out; omega, by have := HJ.out; omega, rfl, by go_num, HPV, HRV, HKV.out.drewK⟩
end Go.Proofs.Ytmahgfgndfcmpag
/- Walks: two rows of worlds put together (slices.symMergeCmpFunc). -/
namespace Go.Proofs.Ytmahgfgndfcmpag
open Go.RowKit Go.Sort

theorem rowW11 (l : List Value) (h0 : l.length = 11) : ∃ x0 x1 x2 x3 x4 x5 x6 x7 x8 x9 x10, l = [x0, x1, x2, x3, x4, x5, x6, x7, x8, x9, x10] := by
  obtain ⟨x0, l1, e0, h1⟩ := cons_lenM h0; obtain ⟨x1, l2, e1, h2⟩ := cons_lenM h1; obtain ⟨x2, l3, e2, h3⟩ := cons_lenM h2; obtain ⟨x3, l4, e3, h4⟩ := cons_lenM h3; obtain ⟨x4, l5, e4, h5⟩ := cons_lenM h4; obtain ⟨x5, l6, e5, h6⟩ := cons_lenM h5; obtain ⟨x6, l7, e6, h7⟩ := cons_lenM h6; obtain ⟨x7, l8, e7, h8⟩ := cons_lenM h7; obtain ⟨x8, l9, e8, h9⟩ := cons_lenM h8; obtain ⟨x9, l10, e9, h10⟩ := cons_lenM h9; obtain ⟨x10, l11, e10, h11⟩ := cons_lenM h10; have e11 : l11 = [] := List.length_eq_zero_iff.1 h11; subst e11 e10 e9 e8 e7 e6 e5 e4 e3 e2 e1 e0; exact ⟨x0, x1, x2, x3, x4, x5, x6, x7, x8, x9, x10, rfl⟩
theorem rowW12 (l : List Value) (h0 : l.length = 12) : ∃ x0 x1 x2 x3 x4 x5 x6 x7 x8 x9 x10 x11, l = [x0, x1, x2, x3, x4, x5, x6, x7, x8, x9, x10, x11] := by
  obtain ⟨x0, l1, e0, h1⟩ := cons_lenM h0; obtain ⟨x1, l2, e1, h2⟩ := cons_lenM h1; obtain ⟨x2, l3, e2, h3⟩ := cons_lenM h2; obtain ⟨x3, l4, e3, h4⟩ := cons_lenM h3; obtain ⟨x4, l5, e4, h5⟩ := cons_lenM h4; obtain ⟨x5, l6, e5, h6⟩ := cons_lenM h5; obtain ⟨x6, l7, e6, h7⟩ := cons_lenM h6; obtain ⟨x7, l8, e7, h8⟩ := cons_lenM h7; obtain ⟨x8, l9, e8, h9⟩ := cons_lenM h8; obtain ⟨x9, l10, e9, h10⟩ := cons_lenM h9; obtain ⟨x10, l11, e10, h11⟩ := cons_lenM h10; obtain ⟨x11, l12, e11, h12⟩ := cons_lenM h11; have e12 : l12 = [] := List.length_eq_zero_iff.1 h12; subst e12 e11 e10 e9 e8 e7 e6 e5 e4 e3 e2 e1 e0; exact ⟨x0, x1, x2, x3, x4, x5, x6, x7, x8, x9, x10, x11, rfl⟩
theorem rowW14 (l : List Value) (h0 : l.length = 14) : ∃ x0 x1 x2 x3 x4 x5 x6 x7 x8 x9 x10 x11 x12 x13, l = [x0, x1, x2, x3, x4, x5, x6, x7, x8, x9, x10, x11, x12, x13] := by
  obtain ⟨x0, l1, e0, h1⟩ := cons_lenM h0; obtain ⟨x1, l2, e1, h2⟩ := cons_lenM h1; obtain ⟨x2, l3, e2, h3⟩ := cons_lenM h2; obtain ⟨x3, l4, e3, h4⟩ := cons_lenM h3; obtain ⟨x4, l5, e4, h5⟩ := cons_lenM h4; obtain ⟨x5, l6, e5, h6⟩ := cons_lenM h5; obtain ⟨x6, l7, e6, h7⟩ := cons_lenM h6; obtain ⟨x7, l8, e7, h8⟩ := cons_lenM h7; obtain ⟨x8, l9, e8, h9⟩ := cons_lenM h8; obtain ⟨x9, l10, e9, h10⟩ := cons_lenM h9; obtain ⟨x10, l11, e10, h11⟩ := cons_lenM h10; obtain ⟨x11, l12, e11, h12⟩ := cons_lenM h11; obtain ⟨x12, l13, e12, h13⟩ := cons_lenM h12; obtain ⟨x13, l14, e13, h14⟩ := cons_lenM h13; have e14 : l14 = [] := List.length_eq_zero_iff.1 h14; subst e14 e13 e12 e11 e10 e9 e8 e7 e6 e5 e4 e3 e2 e1 e0; exact ⟨x0, x1, x2, x3, x4, x5, x6, x7, x8, x9, x10, x11, x12, x13, rfl⟩
def SymS (ps : List PartM) (g cap : Nat) (rest : List Value) (fuel : Nat) : Prop := ∀ (l : List Nat) (lo md hi : Nat) (w : World), l.length ≤ 100000 → l.length ≤ cap → lo < md → md < hi → hi ≤ l.length → hi - lo < fuel → SRow ps w g l rest →
  Calls Try.prog 142 #[.slice (some ⟨g, 0, none⟩) l.length cap, .int .i64 (lo : Nat), .int .i64 (md : Nat), .int .i64 (hi : Nat), .func (.func 111) #[] #[]] w fun e w' => SortP ps g l rest w e w'
set_option maxRecDepth 10000 in
set_option maxHeartbeats 16000000 in
theorem symm_one {ps : List PartM} (g cap : Nat) (rest : List Value) (fuel : Nat) (ih : SymS ps g cap rest fuel) (l : List Nat) (lo md hi : Nat) (w : World) (hl : l.length ≤ 100000) (hc : l.length ≤ cap) (h1 : lo < md) (h2 : md < hi) (h3 : hi ≤ l.length) (h4 : hi - lo < fuel + 1) (hr : SRow ps w g l rest) (hcase : md - lo = 1) :
    Calls Try.prog 142 #[.slice (some ⟨g, 0, none⟩) l.length cap, .int .i64 (lo : Nat), .int .i64 (md : Nat), .int .i64 (hi : Nat), .func (.func 111) #[] #[]] w fun e w' => SortP ps g l rest w e w' := by
  have HR : Hid (SRow ps w g l rest) := hr; (have HCm : Hid (∀ u v W, Calls Try.prog 111 #[WV ps u, WV ps v] W _) := fun u v W => cmpW_any ps u v W)
  have HRo : Hid (∀ (l1 : List Nat) (x y z : Nat) (W : World), l1.Perm l → x < y → y < z → z ≤ l.length → SRow ps W g l1 rest → Calls Try.prog 144 #[.slice (some ⟨g, 0, none⟩) l.length cap, .int .i64 (x : Nat), .int .i64 (y : Nat), .int .i64 (z : Nat), .func (.func 111) #[] #[]] W fun e w' => SortP ps g l1 rest W e w') := fun l1 x y z W hp q1 q2 q3 q4 => by
    (have := rotate_any (ps := ps) g cap (.func (.func 111) #[] #[]) rest l1 (by rw [hp.length_eq]; exact hl) (by rw [hp.length_eq]; exact hc) x y z q1 q2 (by rw [hp.length_eq]; exact q3) W q4)
    rwa [hp.length_eq] at this
  have HIH : Hid (∀ (l1 : List Nat) (x y z : Nat) (W : World), l1.Perm l → x < y → y < z → z ≤ l.length → z - x < fuel → SRow ps W g l1 rest → Calls Try.prog 142 #[.slice (some ⟨g, 0, none⟩) l.length cap, .int .i64 (x : Nat), .int .i64 (y : Nat), .int .i64 (z : Nat), .func (.func 111) #[] #[]] W fun e w' => SortP ps g l1 rest W e w') := fun l1 x y z W hp q1 q2 q3 q4 q5 => by
    (have := ih l1 x y z W (by rw [hp.length_eq]; exact hl) (by rw [hp.length_eq]; exact hc) q1 q2 (by rw [hp.length_eq]; exact q3) q4 q5)
    rwa [hp.length_eq] at this
  have hcf := worlds1_in; have HO : Hid (lo < md ∧ md < hi ∧ hi ≤ l.length ∧ l.length ≤ 100000 ∧ l.length ≤ cap ∧ hi - lo < fuel + 1) := ⟨h1, h2, h3, hl, hc, h4⟩; (have hlI : (l.length : Int) ≤ 100000 := by omega); (have hmI : (md : Int) ≤ 100000 := by omega); (have hhI9 : (hi : Int) ≤ 100000 := by omega); (have hloI : (lo : Int) ≤ 100000 := by omega); unfold WV at HCm; (have hml : (md : Int) - (lo : Int) = 1 := by omega); clear h1 h2 h3 h4 hl hc hr ih hcase
  go_enter Try.func142, Try.ntmps142
  go_wp2_with fail; clear hml
  go_loopg [10, 11] (hi - md) (fun gg c d wr => ∃ i j, gg = j - i ∧ c = .int .i64 (i : Nat) ∧ d = .int .i64 (j : Nat) ∧ Hid (md ≤ i ∧ i ≤ j ∧ j ≤ hi) ∧ Hid (Below w.heap.size w wr))
  case atStart => exact ⟨md, hi, rfl, by go_num, by go_num, by have := HO.out; show _ ∧ _; omega, Below.refl _ _⟩
  case round =>
    obtain ⟨i, j, hg, rfl, rfl, HIJ, HB⟩ := hrel; have HGk : Hid (gk = j - i) := hg; (have hiI : (i : Int) ≤ 100000 := by have := HIJ.out; have := HO.out; omega); (have hjI : (j : Int) ≤ 100000 := by have := HIJ.out; have := HO.out; omega); clear hg; by_cases hij : i < j
    · obtain ⟨hx, hhx⟩ : ∃ hx, hx = (i + j) / 2 := ⟨_, rfl⟩
      (have hhI : ((i : Int) + (j : Int)) / 2 = (hx : Int) := by omega); (have HX : Hid (i ≤ hx ∧ hx < j) := by show _ ∧ _; omega); (have hxI : (hx : Int) ≤ 100000 := by have := HX.out; omega)

      (obtain ⟨xa, hxa⟩ : ∃ x, l[hx]? = some x := ⟨_, List.getElem?_eq_getElem (by have := HO.out; have := HX.out; have := HIJ.out; omega)⟩); (obtain ⟨xb, hxb⟩ : ∃ x, l[lo]? = some x := ⟨_, List.getElem?_eq_getElem (by have := HO.out; have := HX.out; have := HIJ.out; omega)⟩); have HXa : Hid (l[hx]? = some xa) := hxa; have HXb : Hid (l[lo]? = some xb) := hxb; (have b1 : (hx : Int) < (l.length : Int) := by have := HO.out; have := HX.out; have := HIJ.out; omega); (have b2 : (lo : Int) < (l.length : Int) := by have := HO.out; have := HX.out; have := HIJ.out; omega); (have b3 : (hx : Int) < (cap : Int) := by have := HO.out; omega); (have b4 : (lo : Int) < (cap : Int) := by have := HO.out; omega); clear hxa hxb hhx; go_wp2_with fail; clear hij hhI; (refine wp_region_free (by kernel_rfl) [fun v _ => v = (.func (.func 111) #[] #[]), fun v _ => v = (.slice (some ⟨g, 0, none⟩) l.length cap), fun v _ => v = (.int .i64 (hx : Nat)), fun v _ => v = (.pointer (some ⟨g, hx * 3, none⟩)), fun v _ => v = (.agg #[.int .u64 (xa : Nat), .int .u64 (bm ps.length (wnB ps xa) : Nat), .int .u64 (bm ps.length (swB ps xa) : Nat)]), fun v _ => v = (.slice (some ⟨g, 0, none⟩) l.length cap), fun v _ => v = (.int .i64 (lo : Nat)), fun v _ => v = (.pointer (some ⟨g, lo * 3, none⟩)), fun v _ => v = (.agg #[.int .u64 (xb : Nat), .int .u64 (bm ps.length (wnB ps xb) : Nat), .int .u64 (bm ps.length (swB ps xb) : Nat)]), kInt, kBo] ?_ (by kernel_rfl) (by kernel_rfl) 220 rfl (by kernel_rfl) ?_ ?_)
      · intro p hp
        simp only [List.mem_cons, List.not_mem_nil, or_false] at hp
        rcases hp with rfl | rfl | rfl | rfl | rfl | rfl | rfl | rfl | rfl | rfl | rfl
        · exact fun _ _ _ h _ => h
        · exact fun _ _ _ h _ => h
        · exact fun _ _ _ h _ => h
        · exact fun _ _ _ h _ => h
        · exact fun _ _ _ h _ => h
        · exact fun _ _ _ h _ => h
        · exact fun _ _ _ h _ => h
        · exact fun _ _ _ h _ => h
        · exact fun _ _ _ h _ => h
        · exact kInt_stays
        · exact kBo_stays
      · refine ⟨?_, ?_, ?_, ?_, ?_, ?_, ?_, ?_, ?_, ?_, ?_, trivial⟩
        · intro a wx hB hold hdep K hK
          have t4 : a.tmps[4]? = some (.func (.func 111) #[] #[]) := hold.2.2 4 rfl; clear hold hdep; go_simp; exact hK.out _ _ rfl (Below.refl _ _)
        · intro a wx hB hold hdep K hK
          have t0 : a.tmps[0]? = some (.slice (some ⟨g, 0, none⟩) l.length cap) := hold.2.2 0 rfl; clear hold hdep; go_simp; exact hK.out _ _ rfl (Below.refl _ _)
        · intro a wx hB hold hdep K hK
          have t12 : a.tmps[12]? = some (.int .i64 (hx : Nat)) := hold.2.2 12 rfl; clear hold hdep; go_simp; exact hK.out _ _ rfl (Below.refl _ _)
        · intro a wx hB hold hdep K hK
          obtain ⟨v41, t41, p41⟩ := hdep 1 rfl _ 41 rfl rfl; have e41 : v41 = (.slice (some ⟨g, 0, none⟩) l.length cap) := p41; subst e41; obtain ⟨v42, t42, p42⟩ := hdep 2 rfl _ 42 rfl rfl; have e42 : v42 = (.int .i64 (hx : Nat)) := p42; subst e42; clear hold hdep; go_simp; exact hK.out _ _ rfl (Below.refl _ _)
        · intro a wx hB hold hdep K hK
          obtain ⟨v43, t43, p43⟩ := hdep 3 rfl _ 43 rfl rfl; have e43 : v43 = (.pointer (some ⟨g, hx * 3, none⟩)) := p43; subst e43; obtain ⟨q0, q1, q2, -⟩ := ((HR.out.up HB.out).up hB).cells HXa.out; clear hold hdep; go_simp; exact hK.out _ _ rfl (Below.refl _ _)
        · intro a wx hB hold hdep K hK
          have t0 : a.tmps[0]? = some (.slice (some ⟨g, 0, none⟩) l.length cap) := hold.2.2 0 rfl; clear hold hdep; go_simp; exact hK.out _ _ rfl (Below.refl _ _)
        · intro a wx hB hold hdep K hK
          have t1 : a.tmps[1]? = some (.int .i64 (lo : Nat)) := hold.2.2 1 rfl; clear hold hdep; go_simp; exact hK.out _ _ rfl (Below.refl _ _)
        · intro a wx hB hold hdep K hK
          obtain ⟨v45, t45, p45⟩ := hdep 5 rfl _ 45 rfl rfl; have e45 : v45 = (.slice (some ⟨g, 0, none⟩) l.length cap) := p45; subst e45; obtain ⟨v46, t46, p46⟩ := hdep 6 rfl _ 46 rfl rfl; have e46 : v46 = (.int .i64 (lo : Nat)) := p46; subst e46; clear hold hdep; go_simp; exact hK.out _ _ rfl (Below.refl _ _)
        · intro a wx hB hold hdep K hK
          obtain ⟨v47, t47, p47⟩ := hdep 7 rfl _ 47 rfl rfl; have e47 : v47 = (.pointer (some ⟨g, lo * 3, none⟩)) := p47; subst e47; obtain ⟨q0, q1, q2, -⟩ := ((HR.out.up HB.out).up hB).cells HXb.out; clear hold hdep; go_simp; exact hK.out _ _ rfl (Below.refl _ _)
        · intro a wx hB hold hdep K hK
          obtain ⟨v40, t40, p40⟩ := hdep 0 rfl _ 40 rfl rfl; have e40 : v40 = (.func (.func 111) #[] #[]) := p40; subst e40; obtain ⟨v44, t44, p44⟩ := hdep 4 rfl _ 44 rfl rfl; have e44 : v44 = (.agg #[.int .u64 (xa : Nat), .int .u64 (bm ps.length (wnB ps xa) : Nat), .int .u64 (bm ps.length (swB ps xa) : Nat)]) := p44; subst e44; obtain ⟨v48, t48, p48⟩ := hdep 8 rfl _ 48 rfl rfl; have e48 : v48 = (.agg #[.int .u64 (xb : Nat), .int .u64 (bm ps.length (wnB ps xb) : Nat), .int .u64 (bm ps.length (swB ps xb) : Nat)]) := p48; subst e48; have HW : Hid (Calls Try.prog 111 #[.agg #[.int .u64 (xa : Nat), .int .u64 (bm ps.length (wnB ps xa) : Nat), .int .u64 (bm ps.length (swB ps xa) : Nat)], .agg #[.int .u64 (xb : Nat), .int .u64 (bm ps.length (wnB ps xb) : Nat), .int .u64 (bm ps.length (swB ps xb) : Nat)]] wx _) := HCm.out xa xb wx; clear hold hdep; go_simp; refine HW.out.mono ?_; rintro _ w9 ⟨⟨c9, rfl⟩, hb9⟩; go_simp; exact hK.out _ _ ⟨_, rfl⟩ hb9
        · intro a wx hB hold hdep K hK
          obtain ⟨v49, t49, p49⟩ := hdep 9 rfl _ 49 rfl rfl; have P49 : Hid ((kInt) v49 wx) := p49; clear p49; obtain ⟨c9, rfl⟩ := P49.out; clear P49; clear hold hdep; go_simp; exact hK.out _ _ ⟨_, rfl⟩ (Below.refl _ _)
      · intro a wx hB hold hgot
        obtain ⟨vZ, tvZ, pvZ⟩ := hgot 10 _ 50 rfl rfl; obtain ⟨bz, rfl⟩ := pvZ; have HBx : Hid (Below wr.heap.size wr wx) := hB; obtain ⟨tm, df⟩ := a; (obtain ⟨ys, hys, htm, rfl⟩ := frame_mid2 40 11 (by kernel_rfl) (Nat.le_of_ble_eq_true rfl) hold); obtain ⟨x40, x41, x42, x43, x44, x45, x46, x47, x48, x49, x50, rfl⟩ := rowW11 ys hys; simp only [List.take_succ_cons, List.take_zero, List.drop_succ_cons, List.drop_zero, List.cons_append, List.nil_append] at htm; subst htm; obtain rfl : x50 = _ := someInjM tvZ; clear hys hold hgot tvZ hB; have HB2 : Hid (Below w.heap.size w wx) := below_join HB.out HBx.out; clear HBx HXa HXb
        cases bz
        · go_wp2_with fail
          go_roundg (hx - i)
          case measure => have := HGk.out; have := HX.out; omega
          case rel => exact ⟨i, hx, rfl, by go_num, by go_num, by have := HX.out; have := HIJ.out; show _ ∧ _; omega, HB2⟩
        · go_wp2_with fail
          go_roundg (j - (hx + 1))
          case measure => have := HGk.out; have := HX.out; omega
          case rel => exact ⟨hx + 1, j, rfl, by go_num, by go_num, by have := HX.out; have := HIJ.out; show _ ∧ _; omega, HB2⟩
    · have hij2 : decide (i < j) = false := decide_eq_false hij
      (have HE : Hid (i = j) := by have := HIJ.out; show _ = _; omega); clear hij; go_wp2_with fail; clear hij2; obtain ⟨i1, hi1⟩ : ∃ i1, i1 = i - 1 := ⟨_, rfl⟩; (have hi1I : (i : Int) - 1 = (i1 : Int) := by have := HO.out; have := HIJ.out; omega); (have HLi : Hid (i1 + 1 = i ∧ lo ≤ i1) := by have := HO.out; have := HIJ.out; show _ ∧ _; omega); (have hi1b : (i1 : Int) ≤ 100000 := by have := HLi.out; omega); clear hi1
      go_loopg [13] (i1 - lo) (fun gg c wr => ∃ k l1, gg = i1 - k ∧ c = .int .i64 (k : Nat) ∧ Hid (lo ≤ k ∧ (k ≤ i1 ∨ k = lo)) ∧ Hid (l1.Perm l) ∧ Hid (SRow ps wr g l1 rest) ∧ Hid (Kept (fun b => b ≠ g) w wr))
      case atStart => exact ⟨lo, l, rfl, by go_num, by have := HO.out; have := HIJ.out; have := HE.out; have := HLi.out; show _ ∧ _; omega, List.Perm.refl _, HR.out.up HB.out, Kept.belowK (Kept.refl _ _) HB.out⟩
      case round =>
        obtain ⟨k, l1, hg, rfl, HK0, HP1, HR1, HK1⟩ := hrel; have HGk2 : Hid (gk = i1 - k) := hg; (have hkI : (k : Int) ≤ 100000 := by have := HK0.out; have := HO.out; have := HIJ.out; have := HLi.out; omega); clear hg; by_cases hk : k < i1
        · have hkl : k + 1 < l.length := by have := HO.out; have := HIJ.out; have := HLi.out; omega
          (have c1 : (k : Int) < (l.length : Int) := by omega); (have c2 : (k + 1 : Int) < (l.length : Int) := by omega); (have c3 : (k : Int) < (cap : Int) := by have := HO.out; omega); (have c4 : (k + 1 : Int) < (cap : Int) := by have := HO.out; omega); have HKl : Hid (k < i1) := hk; (obtain ⟨x, hx⟩ : ∃ x, l1[k]? = some x := ⟨_, List.getElem?_eq_getElem (by have := HP1.out.length_eq; omega)⟩); (obtain ⟨y, hy⟩ : ∃ y, l1[k + 1]? = some y := ⟨_, List.getElem?_eq_getElem (by have := HP1.out.length_eq; omega)⟩); obtain ⟨x0, x1, x2, x3, x4, x5⟩ := HR1.out.cells hx; obtain ⟨y0, y1, y2, y3, y4, y5⟩ := HR1.out.cells hy; (have hp := HR1.out.put (j := k) (by have := HP1.out.length_eq; omega) y); (obtain ⟨z, hz⟩ : ∃ z, (l1.set (k) y)[k + 1]? = some z := ⟨_, List.getElem?_eq_getElem (by have := HP1.out.length_eq; simp; omega)⟩); obtain ⟨z0, z1, z2, z3, z4, z5⟩ := hp.cells hz; (have hq := hp.put (j := k + 1) (by have := HP1.out.length_eq; simp; omega) x); obtain ⟨V, hV⟩ : ∃ V, V = ((((((wr).setCell ⟨g, (k) * 3, none⟩ (.int .u64 (y : Nat))).setCell ⟨g, (k) * 3 + 1, none⟩ (.int .u64 (bm ps.length (wnB ps y) : Nat))).setCell ⟨g, (k) * 3 + 2, none⟩ (.int .u64 (bm ps.length (swB ps y) : Nat))).setCell ⟨g, (k + 1) * 3, none⟩ (.int .u64 (x : Nat))).setCell ⟨g, (k + 1) * 3 + 1, none⟩ (.int .u64 (bm ps.length (wnB ps x) : Nat))).setCell ⟨g, (k + 1) * 3 + 2, none⟩ (.int .u64 (bm ps.length (swB ps x) : Nat)) := ⟨_, rfl⟩; (have HRV : Hid (SRow ps V g ((l1.set (k) y).set (k + 1) x) rest) := by rw [hV]; exact hq); have HPV : Hid (((l1.set (k) y).set (k + 1) x).Perm l) := (swap_perm hx hy).trans HP1.out; (have HKV : Hid (Kept (fun b => b ≠ g) w V) := by rw [hV]; exact (((((HK1.out.set _).set _).set _).set _).set _).set _); clear hx hy hp hz hq; clear hkl; go_wp2_with fail
          go_region
          all_goals
            rw [← hV]; clear hV; clear x0 x1 x2 x3 x4 x5 y0 y1 y2 y3 y4 y5 z0 z1 z2 z3 z4 z5; go_wp2_with fail
            go_roundg (i1 - (k + 1))
            case measure => have := HGk2.out; have := HKl.out; omega
            case rel => exact ⟨k + 1, _, rfl, by go_num, by have := HK0.out; have := HKl.out; show _ ∧ _; omega, HPV, HRV, HKV.out.drewK⟩
        · have hk2 : decide (k < i1) = false := decide_eq_false hk
          clear hk; go_wp2_with fail; (exact bodyPost_ret (v := .tuple #[]) (by simp [results, Try.results142, go_sem]) rfl ⟨l1, HP1.out, rfl, HR1.out, HK1.out⟩)
set_option maxRecDepth 10000 in
set_option maxHeartbeats 16000000 in
theorem symm_two {ps : List PartM} (g cap : Nat) (rest : List Value) (fuel : Nat) (ih : SymS ps g cap rest fuel) (l : List Nat) (lo md hi : Nat) (w : World) (hl : l.length ≤ 100000) (hc : l.length ≤ cap) (h1 : lo < md) (h2 : md < hi) (h3 : hi ≤ l.length) (h4 : hi - lo < fuel + 1) (hr : SRow ps w g l rest) (hcase : md - lo ≠ 1 ∧ hi - md = 1) :
    Calls Try.prog 142 #[.slice (some ⟨g, 0, none⟩) l.length cap, .int .i64 (lo : Nat), .int .i64 (md : Nat), .int .i64 (hi : Nat), .func (.func 111) #[] #[]] w fun e w' => SortP ps g l rest w e w' := by
  have HR : Hid (SRow ps w g l rest) := hr; (have HCm : Hid (∀ u v W, Calls Try.prog 111 #[WV ps u, WV ps v] W _) := fun u v W => cmpW_any ps u v W)
  have HRo : Hid (∀ (l1 : List Nat) (x y z : Nat) (W : World), l1.Perm l → x < y → y < z → z ≤ l.length → SRow ps W g l1 rest → Calls Try.prog 144 #[.slice (some ⟨g, 0, none⟩) l.length cap, .int .i64 (x : Nat), .int .i64 (y : Nat), .int .i64 (z : Nat), .func (.func 111) #[] #[]] W fun e w' => SortP ps g l1 rest W e w') := fun l1 x y z W hp q1 q2 q3 q4 => by
    (have := rotate_any (ps := ps) g cap (.func (.func 111) #[] #[]) rest l1 (by rw [hp.length_eq]; exact hl) (by rw [hp.length_eq]; exact hc) x y z q1 q2 (by rw [hp.length_eq]; exact q3) W q4)
    rwa [hp.length_eq] at this
  have HIH : Hid (∀ (l1 : List Nat) (x y z : Nat) (W : World), l1.Perm l → x < y → y < z → z ≤ l.length → z - x < fuel → SRow ps W g l1 rest → Calls Try.prog 142 #[.slice (some ⟨g, 0, none⟩) l.length cap, .int .i64 (x : Nat), .int .i64 (y : Nat), .int .i64 (z : Nat), .func (.func 111) #[] #[]] W fun e w' => SortP ps g l1 rest W e w') := fun l1 x y z W hp q1 q2 q3 q4 q5 => by
    (have := ih l1 x y z W (by rw [hp.length_eq]; exact hl) (by rw [hp.length_eq]; exact hc) q1 q2 (by rw [hp.length_eq]; exact q3) q4 q5)
    rwa [hp.length_eq] at this
  have hcf := worlds1_in; have HO : Hid (lo < md ∧ md < hi ∧ hi ≤ l.length ∧ l.length ≤ 100000 ∧ l.length ≤ cap ∧ hi - lo < fuel + 1) := ⟨h1, h2, h3, hl, hc, h4⟩; (have hlI : (l.length : Int) ≤ 100000 := by omega); (have hmI : (md : Int) ≤ 100000 := by omega); (have hhI9 : (hi : Int) ≤ 100000 := by omega); (have hloI : (lo : Int) ≤ 100000 := by omega); unfold WV at HCm; obtain ⟨ml, hml0⟩ : ∃ ml, ml = md - lo := ⟨_, rfl⟩; (have hml : (md : Int) - (lo : Int) = (ml : Int) := by omega); (have hml1 : ((ml : Int) == 1) = false := by simp; omega); (have hml2 : ((ml : Nat) == 1) = false := by simp; omega); (have hhm : (hi : Int) - (md : Int) = 1 := by omega); clear hml0; clear h1 h2 h3 h4 hl hc hr ih hcase
  go_enter Try.func142, Try.ntmps142
  go_wp2_with fail; clear hml hml1 hhm hml2
  go_loopg [14, 15] (md - lo) (fun gg c d wr => ∃ i j, gg = j - i ∧ c = .int .i64 (i : Nat) ∧ d = .int .i64 (j : Nat) ∧ Hid (lo ≤ i ∧ i ≤ j ∧ j ≤ md) ∧ Hid (Below w.heap.size w wr))
  case atStart => exact ⟨lo, md, rfl, by go_num, by go_num, by have := HO.out; show _ ∧ _; omega, Below.refl _ _⟩
  case round =>
    obtain ⟨i, j, hg, rfl, rfl, HIJ, HB⟩ := hrel; have HGk : Hid (gk = j - i) := hg; (have hiI : (i : Int) ≤ 100000 := by have := HIJ.out; have := HO.out; omega); (have hjI : (j : Int) ≤ 100000 := by have := HIJ.out; have := HO.out; omega); clear hg; by_cases hij : i < j
    · obtain ⟨hx, hhx⟩ : ∃ hx, hx = (i + j) / 2 := ⟨_, rfl⟩
      (have hhI : ((i : Int) + (j : Int)) / 2 = (hx : Int) := by omega); (have HX : Hid (i ≤ hx ∧ hx < j) := by show _ ∧ _; omega); (have hxI : (hx : Int) ≤ 100000 := by have := HX.out; omega)

      (obtain ⟨xa, hxa⟩ : ∃ x, l[md]? = some x := ⟨_, List.getElem?_eq_getElem (by have := HO.out; have := HX.out; have := HIJ.out; omega)⟩); (obtain ⟨xb, hxb⟩ : ∃ x, l[hx]? = some x := ⟨_, List.getElem?_eq_getElem (by have := HO.out; have := HX.out; have := HIJ.out; omega)⟩); have HXa : Hid (l[md]? = some xa) := hxa; have HXb : Hid (l[hx]? = some xb) := hxb; (have b1 : (md : Int) < (l.length : Int) := by have := HO.out; have := HX.out; have := HIJ.out; omega); (have b2 : (hx : Int) < (l.length : Int) := by have := HO.out; have := HX.out; have := HIJ.out; omega); (have b3 : (md : Int) < (cap : Int) := by have := HO.out; omega); (have b4 : (hx : Int) < (cap : Int) := by have := HO.out; omega); clear hxa hxb hhx; go_wp2_with fail; clear hij hhI; (refine wp_region_free (by kernel_rfl) [fun v _ => v = (.func (.func 111) #[] #[]), fun v _ => v = (.slice (some ⟨g, 0, none⟩) l.length cap), fun v _ => v = (.int .i64 (md : Nat)), fun v _ => v = (.pointer (some ⟨g, md * 3, none⟩)), fun v _ => v = (.agg #[.int .u64 (xa : Nat), .int .u64 (bm ps.length (wnB ps xa) : Nat), .int .u64 (bm ps.length (swB ps xa) : Nat)]), fun v _ => v = (.slice (some ⟨g, 0, none⟩) l.length cap), fun v _ => v = (.int .i64 (hx : Nat)), fun v _ => v = (.pointer (some ⟨g, hx * 3, none⟩)), fun v _ => v = (.agg #[.int .u64 (xb : Nat), .int .u64 (bm ps.length (wnB ps xb) : Nat), .int .u64 (bm ps.length (swB ps xb) : Nat)]), kInt, kBo, kBo] ?_ (by kernel_rfl) (by kernel_rfl) 220 rfl (by kernel_rfl) ?_ ?_)
      · intro p hp
        simp only [List.mem_cons, List.not_mem_nil, or_false] at hp
        rcases hp with rfl | rfl | rfl | rfl | rfl | rfl | rfl | rfl | rfl | rfl | rfl | rfl
        · exact fun _ _ _ h _ => h
        · exact fun _ _ _ h _ => h
        · exact fun _ _ _ h _ => h
        · exact fun _ _ _ h _ => h
        · exact fun _ _ _ h _ => h
        · exact fun _ _ _ h _ => h
        · exact fun _ _ _ h _ => h
        · exact fun _ _ _ h _ => h
        · exact fun _ _ _ h _ => h
        · exact kInt_stays
        · exact kBo_stays
        · exact kBo_stays
      · refine ⟨?_, ?_, ?_, ?_, ?_, ?_, ?_, ?_, ?_, ?_, ?_, ?_, trivial⟩
        · intro a wx hB hold hdep K hK
          have t4 : a.tmps[4]? = some (.func (.func 111) #[] #[]) := hold.2.2 4 rfl; clear hold hdep; go_simp; exact hK.out _ _ rfl (Below.refl _ _)
        · intro a wx hB hold hdep K hK
          have t0 : a.tmps[0]? = some (.slice (some ⟨g, 0, none⟩) l.length cap) := hold.2.2 0 rfl; clear hold hdep; go_simp; exact hK.out _ _ rfl (Below.refl _ _)
        · intro a wx hB hold hdep K hK
          have t2 : a.tmps[2]? = some (.int .i64 (md : Nat)) := hold.2.2 2 rfl; clear hold hdep; go_simp; exact hK.out _ _ rfl (Below.refl _ _)
        · intro a wx hB hold hdep K hK
          obtain ⟨v93, t93, p93⟩ := hdep 1 rfl _ 93 rfl rfl; have e93 : v93 = (.slice (some ⟨g, 0, none⟩) l.length cap) := p93; subst e93; obtain ⟨v94, t94, p94⟩ := hdep 2 rfl _ 94 rfl rfl; have e94 : v94 = (.int .i64 (md : Nat)) := p94; subst e94; clear hold hdep; go_simp; exact hK.out _ _ rfl (Below.refl _ _)
        · intro a wx hB hold hdep K hK
          obtain ⟨v95, t95, p95⟩ := hdep 3 rfl _ 95 rfl rfl; have e95 : v95 = (.pointer (some ⟨g, md * 3, none⟩)) := p95; subst e95; obtain ⟨q0, q1, q2, -⟩ := ((HR.out.up HB.out).up hB).cells HXa.out; clear hold hdep; go_simp; exact hK.out _ _ rfl (Below.refl _ _)
        · intro a wx hB hold hdep K hK
          have t0 : a.tmps[0]? = some (.slice (some ⟨g, 0, none⟩) l.length cap) := hold.2.2 0 rfl; clear hold hdep; go_simp; exact hK.out _ _ rfl (Below.refl _ _)
        · intro a wx hB hold hdep K hK
          have t16 : a.tmps[16]? = some (.int .i64 (hx : Nat)) := hold.2.2 16 rfl; clear hold hdep; go_simp; exact hK.out _ _ rfl (Below.refl _ _)
        · intro a wx hB hold hdep K hK
          obtain ⟨v97, t97, p97⟩ := hdep 5 rfl _ 97 rfl rfl; have e97 : v97 = (.slice (some ⟨g, 0, none⟩) l.length cap) := p97; subst e97; obtain ⟨v98, t98, p98⟩ := hdep 6 rfl _ 98 rfl rfl; have e98 : v98 = (.int .i64 (hx : Nat)) := p98; subst e98; clear hold hdep; go_simp; exact hK.out _ _ rfl (Below.refl _ _)
        · intro a wx hB hold hdep K hK
          obtain ⟨v99, t99, p99⟩ := hdep 7 rfl _ 99 rfl rfl; have e99 : v99 = (.pointer (some ⟨g, hx * 3, none⟩)) := p99; subst e99; obtain ⟨q0, q1, q2, -⟩ := ((HR.out.up HB.out).up hB).cells HXb.out; clear hold hdep; go_simp; exact hK.out _ _ rfl (Below.refl _ _)
        · intro a wx hB hold hdep K hK
          obtain ⟨v92, t92, p92⟩ := hdep 0 rfl _ 92 rfl rfl; have e92 : v92 = (.func (.func 111) #[] #[]) := p92; subst e92; obtain ⟨v96, t96, p96⟩ := hdep 4 rfl _ 96 rfl rfl; have e96 : v96 = (.agg #[.int .u64 (xa : Nat), .int .u64 (bm ps.length (wnB ps xa) : Nat), .int .u64 (bm ps.length (swB ps xa) : Nat)]) := p96; subst e96; obtain ⟨v100, t100, p100⟩ := hdep 8 rfl _ 100 rfl rfl; have e100 : v100 = (.agg #[.int .u64 (xb : Nat), .int .u64 (bm ps.length (wnB ps xb) : Nat), .int .u64 (bm ps.length (swB ps xb) : Nat)]) := p100; subst e100; have HW : Hid (Calls Try.prog 111 #[.agg #[.int .u64 (xa : Nat), .int .u64 (bm ps.length (wnB ps xa) : Nat), .int .u64 (bm ps.length (swB ps xa) : Nat)], .agg #[.int .u64 (xb : Nat), .int .u64 (bm ps.length (wnB ps xb) : Nat), .int .u64 (bm ps.length (swB ps xb) : Nat)]] wx _) := HCm.out xa xb wx; clear hold hdep; go_simp; refine HW.out.mono ?_; rintro _ w9 ⟨⟨c9, rfl⟩, hb9⟩; go_simp; exact hK.out _ _ ⟨_, rfl⟩ hb9
        · intro a wx hB hold hdep K hK
          obtain ⟨v101, t101, p101⟩ := hdep 9 rfl _ 101 rfl rfl; have P101 : Hid ((kInt) v101 wx) := p101; clear p101; obtain ⟨c9, rfl⟩ := P101.out; clear P101; clear hold hdep; go_simp; exact hK.out _ _ ⟨_, rfl⟩ (Below.refl _ _)
        · intro a wx hB hold hdep K hK
          obtain ⟨v102, t102, p102⟩ := hdep 10 rfl _ 102 rfl rfl; have P102 : Hid ((kBo) v102 wx) := p102; clear p102; obtain ⟨c9, rfl⟩ := P102.out; clear P102; clear hold hdep; go_simp; exact hK.out _ _ ⟨_, rfl⟩ (Below.refl _ _)
      · intro a wx hB hold hgot
        obtain ⟨vZ, tvZ, pvZ⟩ := hgot 11 _ 103 rfl rfl; obtain ⟨bz, rfl⟩ := pvZ; have HBx : Hid (Below wr.heap.size wr wx) := hB; obtain ⟨tm, df⟩ := a; (obtain ⟨ys, hys, htm, rfl⟩ := frame_mid2 92 12 (by kernel_rfl) (Nat.le_of_ble_eq_true rfl) hold); obtain ⟨x92, x93, x94, x95, x96, x97, x98, x99, x100, x101, x102, x103, rfl⟩ := rowW12 ys hys; simp only [List.take_succ_cons, List.take_zero, List.drop_succ_cons, List.drop_zero, List.cons_append, List.nil_append] at htm; subst htm; obtain rfl : x103 = _ := someInjM tvZ; clear hys hold hgot tvZ hB; have HB2 : Hid (Below w.heap.size w wx) := below_join HB.out HBx.out; clear HBx HXa HXb
        cases bz
        · go_wp2_with fail
          go_roundg (hx - i)
          case measure => have := HGk.out; have := HX.out; omega
          case rel => exact ⟨i, hx, rfl, by go_num, by go_num, by have := HX.out; have := HIJ.out; show _ ∧ _; omega, HB2⟩
        · go_wp2_with fail
          go_roundg (j - (hx + 1))
          case measure => have := HGk.out; have := HX.out; omega
          case rel => exact ⟨hx + 1, j, rfl, by go_num, by go_num, by have := HX.out; have := HIJ.out; show _ ∧ _; omega, HB2⟩
    · have hij2 : decide (i < j) = false := decide_eq_false hij
      (have HE : Hid (i = j) := by have := HIJ.out; show _ = _; omega); clear hij; go_wp2_with fail; clear hij2; (have HLi : Hid (i ≤ md) := by have := HO.out; have := HIJ.out; show _ ≤ _; omega)
      go_loopg [17] (md - i) (fun gg c wr => ∃ k l1, gg = k - i ∧ c = .int .i64 (k : Nat) ∧ Hid (i ≤ k ∧ k ≤ md) ∧ Hid (l1.Perm l) ∧ Hid (SRow ps wr g l1 rest) ∧ Hid (Kept (fun b => b ≠ g) w wr))
      case atStart => exact ⟨md, l, rfl, by go_num, by have := HO.out; have := HIJ.out; have := HE.out; have := HLi.out; show _ ∧ _; omega, List.Perm.refl _, HR.out.up HB.out, Kept.belowK (Kept.refl _ _) HB.out⟩
      case round =>
        obtain ⟨k, l1, hg, rfl, HK0, HP1, HR1, HK1⟩ := hrel; have HGk2 : Hid (gk = k - i) := hg; (have hkI : (k : Int) ≤ 100000 := by have := HK0.out; have := HO.out; have := HIJ.out; have := HLi.out; omega); clear hg; by_cases hk : i < k
        · obtain ⟨q, hq⟩ : ∃ q, k = q + 1 := ⟨k - 1, by omega⟩
          (have hkl : k < l.length := by have := HO.out; have := HK0.out; omega); (have hjq : (k : Int) - 1 = (q : Int) := by omega); (have hqw : IntKind.i64.wrap (q : Int) = (q : Int) := wrap_small q (by omega)); have HQ : Hid (k = q + 1) := hq; (have c1 : (k : Int) < (l.length : Int) := by omega); (have c2 : (q : Int) < (l.length : Int) := by omega); (have c3 : (k : Int) < (cap : Int) := by have := HO.out; omega); (have c4 : (q : Int) < (cap : Int) := by have := HO.out; omega); have HKl : Hid (i < k) := hk; (obtain ⟨x, hx⟩ : ∃ x, l1[k]? = some x := ⟨_, List.getElem?_eq_getElem (by have := HP1.out.length_eq; omega)⟩); (obtain ⟨y, hy⟩ : ∃ y, l1[q]? = some y := ⟨_, List.getElem?_eq_getElem (by have := HP1.out.length_eq; omega)⟩); obtain ⟨x0, x1, x2, x3, x4, x5⟩ := HR1.out.cells hx; obtain ⟨y0, y1, y2, y3, y4, y5⟩ := HR1.out.cells hy; (have hp := HR1.out.put (j := k) (by have := HP1.out.length_eq; omega) y); (obtain ⟨z, hz⟩ : ∃ z, (l1.set (k) y)[q]? = some z := ⟨_, List.getElem?_eq_getElem (by have := HP1.out.length_eq; simp; omega)⟩); obtain ⟨z0, z1, z2, z3, z4, z5⟩ := hp.cells hz; (have hq := hp.put (j := q) (by have := HP1.out.length_eq; simp; omega) x); obtain ⟨V, hV⟩ : ∃ V, V = ((((((wr).setCell ⟨g, (k) * 3, none⟩ (.int .u64 (y : Nat))).setCell ⟨g, (k) * 3 + 1, none⟩ (.int .u64 (bm ps.length (wnB ps y) : Nat))).setCell ⟨g, (k) * 3 + 2, none⟩ (.int .u64 (bm ps.length (swB ps y) : Nat))).setCell ⟨g, (q) * 3, none⟩ (.int .u64 (x : Nat))).setCell ⟨g, (q) * 3 + 1, none⟩ (.int .u64 (bm ps.length (wnB ps x) : Nat))).setCell ⟨g, (q) * 3 + 2, none⟩ (.int .u64 (bm ps.length (swB ps x) : Nat)) := ⟨_, rfl⟩; (have HRV : Hid (SRow ps V g ((l1.set (k) y).set (q) x) rest) := by rw [hV]; exact hq); have HPV : Hid (((l1.set (k) y).set (q) x).Perm l) := (swap_perm hx hy).trans HP1.out; (have HKV : Hid (Kept (fun b => b ≠ g) w V) := by rw [hV]; exact (((((HK1.out.set _).set _).set _).set _).set _).set _); clear hx hy hp hz hq; clear hkl hq; go_wp2_with fail
          go_region
          all_goals
            rw [← hV]; clear hV; clear x0 x1 x2 x3 x4 x5 y0 y1 y2 y3 y4 y5 z0 z1 z2 z3 z4 z5; go_wp2_with fail
            go_roundg (q - i)
            case measure => have := HGk2.out; have := HKl.out; have := HQ.out; omega
            case rel => exact ⟨q, _, rfl, by go_num, by have := HK0.out; have := HKl.out; have := HQ.out; show _ ∧ _; omega, HPV, HRV, HKV.out.drewK⟩
        · have hk2 : decide (i < k) = false := decide_eq_false hk
          clear hk; go_wp2_with fail; (exact bodyPost_ret (v := .tuple #[]) (by simp [results, Try.results142, go_sem]) rfl ⟨l1, HP1.out, rfl, HR1.out, HK1.out⟩)
set_option maxRecDepth 10000 in
set_option maxHeartbeats 16000000 in
theorem symm_gt {ps : List PartM} (g cap : Nat) (rest : List Value) (fuel : Nat) (ih : SymS ps g cap rest fuel) (l : List Nat) (lo md hi : Nat) (w : World) (hl : l.length ≤ 100000) (hc : l.length ≤ cap) (h1 : lo < md) (h2 : md < hi) (h3 : hi ≤ l.length) (h4 : hi - lo < fuel + 1) (hr : SRow ps w g l rest) (hcase : md - lo ≠ 1 ∧ hi - md ≠ 1 ∧ (lo + hi) / 2 < md) :
    Calls Try.prog 142 #[.slice (some ⟨g, 0, none⟩) l.length cap, .int .i64 (lo : Nat), .int .i64 (md : Nat), .int .i64 (hi : Nat), .func (.func 111) #[] #[]] w fun e w' => SortP ps g l rest w e w' := by
  have HR : Hid (SRow ps w g l rest) := hr; (have HCm : Hid (∀ u v W, Calls Try.prog 111 #[WV ps u, WV ps v] W _) := fun u v W => cmpW_any ps u v W)
  have HRo : Hid (∀ (l1 : List Nat) (x y z : Nat) (W : World), l1.Perm l → x < y → y < z → z ≤ l.length → SRow ps W g l1 rest → Calls Try.prog 144 #[.slice (some ⟨g, 0, none⟩) l.length cap, .int .i64 (x : Nat), .int .i64 (y : Nat), .int .i64 (z : Nat), .func (.func 111) #[] #[]] W fun e w' => SortP ps g l1 rest W e w') := fun l1 x y z W hp q1 q2 q3 q4 => by
    (have := rotate_any (ps := ps) g cap (.func (.func 111) #[] #[]) rest l1 (by rw [hp.length_eq]; exact hl) (by rw [hp.length_eq]; exact hc) x y z q1 q2 (by rw [hp.length_eq]; exact q3) W q4)
    rwa [hp.length_eq] at this
  have HIH : Hid (∀ (l1 : List Nat) (x y z : Nat) (W : World), l1.Perm l → x < y → y < z → z ≤ l.length → z - x < fuel → SRow ps W g l1 rest → Calls Try.prog 142 #[.slice (some ⟨g, 0, none⟩) l.length cap, .int .i64 (x : Nat), .int .i64 (y : Nat), .int .i64 (z : Nat), .func (.func 111) #[] #[]] W fun e w' => SortP ps g l1 rest W e w') := fun l1 x y z W hp q1 q2 q3 q4 q5 => by
    (have := ih l1 x y z W (by rw [hp.length_eq]; exact hl) (by rw [hp.length_eq]; exact hc) q1 q2 (by rw [hp.length_eq]; exact q3) q4 q5)
    rwa [hp.length_eq] at this
  have hcf := worlds1_in; have HO : Hid (lo < md ∧ md < hi ∧ hi ≤ l.length ∧ l.length ≤ 100000 ∧ l.length ≤ cap ∧ hi - lo < fuel + 1) := ⟨h1, h2, h3, hl, hc, h4⟩; (have hlI : (l.length : Int) ≤ 100000 := by omega); (have hmI : (md : Int) ≤ 100000 := by omega); (have hhI9 : (hi : Int) ≤ 100000 := by omega); (have hloI : (lo : Int) ≤ 100000 := by omega); unfold WV at HCm; obtain ⟨ml, hml0⟩ : ∃ ml, ml = md - lo := ⟨_, rfl⟩; (have hml : (md : Int) - (lo : Int) = (ml : Int) := by omega); (have hml1 : ((ml : Int) == 1) = false := by simp; omega); obtain ⟨hm, hhm0⟩ : ∃ ml, ml = hi - md := ⟨_, rfl⟩; (have hhm : (hi : Int) - (md : Int) = (hm : Int) := by omega); (have hhm1 : ((hm : Int) == 1) = false := by simp; omega); obtain ⟨mid, hmid⟩ : ∃ mid, mid = (lo + hi) / 2 := ⟨_, rfl⟩; (have hmidI : ((lo : Int) + (hi : Int)) / 2 = (mid : Int) := by omega); obtain ⟨nn, hnn⟩ : ∃ nn, nn = mid + md := ⟨_, rfl⟩; (have hnnI : (mid : Int) + (md : Int) = (nn : Int) := by omega); obtain ⟨pp, hpp⟩ : ∃ pp, pp = nn - 1 := ⟨_, rfl⟩; (have hppI : (nn : Int) - 1 = (pp : Int) := by omega); (have hmid2 : (mid : Int) ≤ 100000 := by omega); (have hnn2 : (nn : Int) ≤ 200000 := by omega); (have hpp2 : (pp : Int) ≤ 200000 := by omega); (have HMid : Hid (lo < mid ∧ mid < hi) := by show _ ∧ _; omega); (have HN : Hid (nn = mid + md ∧ pp = nn - 1 ∧ mid = (lo + hi) / 2 ∧ mid < md) := ⟨hnn, hpp, hmid, by rw [hmid]; exact hcase.2.2⟩); obtain ⟨st, hst⟩ : ∃ st, st = nn - hi := ⟨_, rfl⟩; (have hstI : (nn : Int) - (hi : Int) = (st : Int) := by omega); (have hst2 : (st : Int) ≤ 100000 := by omega); have HSt : Hid (st = nn - hi) := hst; (have hgt : (mid : Int) < (md : Int) := by omega); clear hst; clear hml0 hhm0 hmid hnn hpp; clear h1 h2 h3 h4 hl hc hr ih hcase
  go_enter Try.func142, Try.ntmps142
  go_wp2_with fail; clear hml hml1 hhm hhm1 hmidI hnnI hppI hgt hstI
  go_loopg [20, 21] (mid - st) (fun gg c d wr => ∃ i j, gg = j - i ∧ c = .int .i64 (i : Nat) ∧ d = .int .i64 (j : Nat) ∧ Hid (st ≤ i ∧ i ≤ j ∧ j ≤ mid) ∧ Hid (Below w.heap.size w wr))
  case atStart => exact ⟨st, mid, rfl, by go_num, by go_num, by have := HO.out; have := HN.out; have := HSt.out; show _ ∧ _; omega, Below.refl _ _⟩
  case round =>
    obtain ⟨i, j, hg, rfl, rfl, HIJ, HB⟩ := hrel; have HGk : Hid (gk = j - i) := hg; (have hiI : (i : Int) ≤ 100000 := by have := HIJ.out; have := HO.out; have := HN.out; have := HSt.out; omega); (have hjI : (j : Int) ≤ 100000 := by have := HIJ.out; have := HO.out; have := HN.out; have := HSt.out; omega); clear hg; by_cases hij : i < j
    · obtain ⟨hx, hhx⟩ : ∃ hx, hx = (i + j) / 2 := ⟨_, rfl⟩
      (have hhI : ((i : Int) + (j : Int)) / 2 = (hx : Int) := by omega); (have HX : Hid (i ≤ hx ∧ hx < j) := by show _ ∧ _; omega); (have hxI : (hx : Int) ≤ 100000 := by have := HX.out; omega); obtain ⟨pc, hpc⟩ : ∃ pc, pc = pp - hx := ⟨_, rfl⟩; (have hpcI : (pp : Int) - (hx : Int) = (pc : Int) := by have := HN.out; have := HX.out; have := HIJ.out; have := HO.out; have := HN.out; have := HSt.out; omega); have HPc : Hid (pc = pp - hx) := hpc; (have hpcw : IntKind.i64.wrap (pc : Int) = (pc : Int) := wrap_small pc (by have := HN.out; have := HO.out; have := HN.out; have := HSt.out; omega)); (have HPl : Hid (pc < l.length) := by have := HN.out; have := HX.out; have := HIJ.out; have := HO.out; have := HN.out; have := HSt.out; show _ < _; omega); have hpl := HPl.out; (obtain ⟨xa, hxa⟩ : ∃ x, l[pc]? = some x := ⟨_, List.getElem?_eq_getElem (by have := HO.out; have := HN.out; have := HSt.out; have := HX.out; have := HIJ.out; omega)⟩); (obtain ⟨xb, hxb⟩ : ∃ x, l[hx]? = some x := ⟨_, List.getElem?_eq_getElem (by have := HO.out; have := HN.out; have := HSt.out; have := HX.out; have := HIJ.out; omega)⟩); have HXa : Hid (l[pc]? = some xa) := hxa; have HXb : Hid (l[hx]? = some xb) := hxb; (have b1 : (pc : Int) < (l.length : Int) := by have := HO.out; have := HN.out; have := HSt.out; have := HX.out; have := HIJ.out; omega); (have b2 : (hx : Int) < (l.length : Int) := by have := HO.out; have := HN.out; have := HSt.out; have := HX.out; have := HIJ.out; omega); (have b3 : (pc : Int) < (cap : Int) := by have := HO.out; have := HN.out; have := HSt.out; omega); (have b4 : (hx : Int) < (cap : Int) := by have := HO.out; have := HN.out; have := HSt.out; omega); clear hxa hxb hhx hpl hpc; go_wp2_with fail; clear hij hhI; (refine wp_region_free (by kernel_rfl) [fun v _ => v = (.func (.func 111) #[] #[]), fun v _ => v = (.slice (some ⟨g, 0, none⟩) l.length cap), fun v _ => v = (.int .i64 (pp : Nat)), fun v _ => v = (.int .i64 (hx : Nat)), fun v _ => v = (.int .i64 (pc : Nat)), fun v _ => v = (.pointer (some ⟨g, pc * 3, none⟩)), fun v _ => v = (.agg #[.int .u64 (xa : Nat), .int .u64 (bm ps.length (wnB ps xa) : Nat), .int .u64 (bm ps.length (swB ps xa) : Nat)]), fun v _ => v = (.slice (some ⟨g, 0, none⟩) l.length cap), fun v _ => v = (.int .i64 (hx : Nat)), fun v _ => v = (.pointer (some ⟨g, hx * 3, none⟩)), fun v _ => v = (.agg #[.int .u64 (xb : Nat), .int .u64 (bm ps.length (wnB ps xb) : Nat), .int .u64 (bm ps.length (swB ps xb) : Nat)]), kInt, kBo, kBo] ?_ (by kernel_rfl) (by kernel_rfl) 220 rfl (by kernel_rfl) ?_ ?_)
      · intro p hp
        simp only [List.mem_cons, List.not_mem_nil, or_false] at hp
        rcases hp with rfl | rfl | rfl | rfl | rfl | rfl | rfl | rfl | rfl | rfl | rfl | rfl | rfl | rfl
        · exact fun _ _ _ h _ => h
        · exact fun _ _ _ h _ => h
        · exact fun _ _ _ h _ => h
        · exact fun _ _ _ h _ => h
        · exact fun _ _ _ h _ => h
        · exact fun _ _ _ h _ => h
        · exact fun _ _ _ h _ => h
        · exact fun _ _ _ h _ => h
        · exact fun _ _ _ h _ => h
        · exact fun _ _ _ h _ => h
        · exact fun _ _ _ h _ => h
        · exact kInt_stays
        · exact kBo_stays
        · exact kBo_stays
      · refine ⟨?_, ?_, ?_, ?_, ?_, ?_, ?_, ?_, ?_, ?_, ?_, ?_, ?_, ?_, trivial⟩
        · intro a wx hB hold hdep K hK
          have t4 : a.tmps[4]? = some (.func (.func 111) #[] #[]) := hold.2.2 4 rfl; clear hold hdep; go_simp; exact hK.out _ _ rfl (Below.refl _ _)
        · intro a wx hB hold hdep K hK
          have t0 : a.tmps[0]? = some (.slice (some ⟨g, 0, none⟩) l.length cap) := hold.2.2 0 rfl; clear hold hdep; go_simp; exact hK.out _ _ rfl (Below.refl _ _)
        · intro a wx hB hold hdep K hK
          have t22 : a.tmps[22]? = some (.int .i64 (pp : Nat)) := hold.2.2 22 rfl; clear hold hdep; go_simp; exact hK.out _ _ rfl (Below.refl _ _)
        · intro a wx hB hold hdep K hK
          have t23 : a.tmps[23]? = some (.int .i64 (hx : Nat)) := hold.2.2 23 rfl; clear hold hdep; go_simp; exact hK.out _ _ rfl (Below.refl _ _)
        · intro a wx hB hold hdep K hK
          obtain ⟨v160, t160, p160⟩ := hdep 2 rfl _ 160 rfl rfl; have e160 : v160 = (.int .i64 (pp : Nat)) := p160; subst e160; obtain ⟨v161, t161, p161⟩ := hdep 3 rfl _ 161 rfl rfl; have e161 : v161 = (.int .i64 (hx : Nat)) := p161; subst e161; clear hold hdep; go_simp; exact hK.out _ _ rfl (Below.refl _ _)
        · intro a wx hB hold hdep K hK
          obtain ⟨v159, t159, p159⟩ := hdep 1 rfl _ 159 rfl rfl; have e159 : v159 = (.slice (some ⟨g, 0, none⟩) l.length cap) := p159; subst e159; obtain ⟨v162, t162, p162⟩ := hdep 4 rfl _ 162 rfl rfl; have e162 : v162 = (.int .i64 (pc : Nat)) := p162; subst e162; clear hold hdep; go_simp; exact hK.out _ _ rfl (Below.refl _ _)
        · intro a wx hB hold hdep K hK
          obtain ⟨v163, t163, p163⟩ := hdep 5 rfl _ 163 rfl rfl; have e163 : v163 = (.pointer (some ⟨g, pc * 3, none⟩)) := p163; subst e163; obtain ⟨q0, q1, q2, -⟩ := ((HR.out.up HB.out).up hB).cells HXa.out; clear hold hdep; go_simp; exact hK.out _ _ rfl (Below.refl _ _)
        · intro a wx hB hold hdep K hK
          have t0 : a.tmps[0]? = some (.slice (some ⟨g, 0, none⟩) l.length cap) := hold.2.2 0 rfl; clear hold hdep; go_simp; exact hK.out _ _ rfl (Below.refl _ _)
        · intro a wx hB hold hdep K hK
          have t23 : a.tmps[23]? = some (.int .i64 (hx : Nat)) := hold.2.2 23 rfl; clear hold hdep; go_simp; exact hK.out _ _ rfl (Below.refl _ _)
        · intro a wx hB hold hdep K hK
          obtain ⟨v165, t165, p165⟩ := hdep 7 rfl _ 165 rfl rfl; have e165 : v165 = (.slice (some ⟨g, 0, none⟩) l.length cap) := p165; subst e165; obtain ⟨v166, t166, p166⟩ := hdep 8 rfl _ 166 rfl rfl; have e166 : v166 = (.int .i64 (hx : Nat)) := p166; subst e166; clear hold hdep; go_simp; exact hK.out _ _ rfl (Below.refl _ _)
        · intro a wx hB hold hdep K hK
          obtain ⟨v167, t167, p167⟩ := hdep 9 rfl _ 167 rfl rfl; have e167 : v167 = (.pointer (some ⟨g, hx * 3, none⟩)) := p167; subst e167; obtain ⟨q0, q1, q2, -⟩ := ((HR.out.up HB.out).up hB).cells HXb.out; clear hold hdep; go_simp; exact hK.out _ _ rfl (Below.refl _ _)
        · intro a wx hB hold hdep K hK
          obtain ⟨v158, t158, p158⟩ := hdep 0 rfl _ 158 rfl rfl; have e158 : v158 = (.func (.func 111) #[] #[]) := p158; subst e158; obtain ⟨v164, t164, p164⟩ := hdep 6 rfl _ 164 rfl rfl; have e164 : v164 = (.agg #[.int .u64 (xa : Nat), .int .u64 (bm ps.length (wnB ps xa) : Nat), .int .u64 (bm ps.length (swB ps xa) : Nat)]) := p164; subst e164; obtain ⟨v168, t168, p168⟩ := hdep 10 rfl _ 168 rfl rfl; have e168 : v168 = (.agg #[.int .u64 (xb : Nat), .int .u64 (bm ps.length (wnB ps xb) : Nat), .int .u64 (bm ps.length (swB ps xb) : Nat)]) := p168; subst e168; have HW : Hid (Calls Try.prog 111 #[.agg #[.int .u64 (xa : Nat), .int .u64 (bm ps.length (wnB ps xa) : Nat), .int .u64 (bm ps.length (swB ps xa) : Nat)], .agg #[.int .u64 (xb : Nat), .int .u64 (bm ps.length (wnB ps xb) : Nat), .int .u64 (bm ps.length (swB ps xb) : Nat)]] wx _) := HCm.out xa xb wx; clear hold hdep; go_simp; refine HW.out.mono ?_; rintro _ w9 ⟨⟨c9, rfl⟩, hb9⟩; go_simp; exact hK.out _ _ ⟨_, rfl⟩ hb9
        · intro a wx hB hold hdep K hK
          obtain ⟨v169, t169, p169⟩ := hdep 11 rfl _ 169 rfl rfl; have P169 : Hid ((kInt) v169 wx) := p169; clear p169; obtain ⟨c9, rfl⟩ := P169.out; clear P169; clear hold hdep; go_simp; exact hK.out _ _ ⟨_, rfl⟩ (Below.refl _ _)
        · intro a wx hB hold hdep K hK
          obtain ⟨v170, t170, p170⟩ := hdep 12 rfl _ 170 rfl rfl; have P170 : Hid ((kBo) v170 wx) := p170; clear p170; obtain ⟨c9, rfl⟩ := P170.out; clear P170; clear hold hdep; go_simp; exact hK.out _ _ ⟨_, rfl⟩ (Below.refl _ _)
      · intro a wx hB hold hgot
        obtain ⟨vZ, tvZ, pvZ⟩ := hgot 13 _ 171 rfl rfl; obtain ⟨bz, rfl⟩ := pvZ; have HBx : Hid (Below wr.heap.size wr wx) := hB; obtain ⟨tm, df⟩ := a; (obtain ⟨ys, hys, htm, rfl⟩ := frame_mid2 158 14 (by kernel_rfl) (Nat.le_of_ble_eq_true rfl) hold); obtain ⟨x158, x159, x160, x161, x162, x163, x164, x165, x166, x167, x168, x169, x170, x171, rfl⟩ := rowW14 ys hys; simp only [List.take_succ_cons, List.take_zero, List.drop_succ_cons, List.drop_zero, List.cons_append, List.nil_append] at htm; subst htm; obtain rfl : x171 = _ := someInjM tvZ; clear hys hold hgot tvZ hB; have HB2 : Hid (Below w.heap.size w wx) := below_join HB.out HBx.out; clear HBx HXa HXb
        cases bz
        · go_wp2_with fail
          go_roundg (hx - i)
          case measure => have := HGk.out; have := HX.out; omega
          case rel => exact ⟨i, hx, rfl, by go_num, by go_num, by have := HX.out; have := HIJ.out; show _ ∧ _; omega, HB2⟩
        · go_wp2_with fail
          go_roundg (j - (hx + 1))
          case measure => have := HGk.out; have := HX.out; omega
          case rel => exact ⟨hx + 1, j, rfl, by go_num, by go_num, by have := HX.out; have := HIJ.out; show _ ∧ _; omega, HB2⟩
    · have hij2 : decide (i < j) = false := decide_eq_false hij
      (have HE : Hid (i = j) := by have := HIJ.out; show _ = _; omega); clear hij; obtain ⟨en, hen⟩ : ∃ en, en = nn - i := ⟨_, rfl⟩; (have henI : (nn : Int) - (i : Int) = (en : Int) := by have := HN.out; have := HIJ.out; have := HO.out; have := HN.out; have := HSt.out; omega); (have HEn : Hid (en ≤ hi ∧ mid ≤ en + 0 ∧ lo ≤ i ∧ i ≤ mid ∧ i ≤ md ∧ en = nn - i) := by have := HN.out; have := HIJ.out; have := HO.out; have := HN.out; have := HSt.out; show _ ∧ _; omega); (have hen2 : (en : Int) ≤ 100000 := by have := HEn.out; have := HO.out; have := HN.out; have := HSt.out; omega); have HRw : Hid (SRow ps wr g l rest) := HR.out.up HB.out; (have HKw : Hid (Kept (fun b => b ≠ g) w wr) := Kept.belowK (Kept.refl _ _) HB.out); have HPw : Hid (l.Perm l) := List.Perm.refl _; clear hen; by_cases k0 : i < md
      · by_cases m0 : md < en
        · go_wp2_with fail
          (refine (HRo.out l i md en wr HPw.out (by omega) (by omega) (by have := HEn.out; have := HO.out; have := HN.out; have := HSt.out; have := HMid.out; omega) HRw.out).mono ?_); rintro _ u5 ⟨l5, h1, rfl, h3, h4⟩; have P5 : Hid (l5.Perm l) := h1.trans HPw.out; have R5 : Hid (SRow ps u5 g l5 rest) := h3; (have K5 : Hid (Kept (fun b => b ≠ g) w u5) := keptW_on HKw.out h4 fun _ _ h => h); clear h1 h3 h4; by_cases k1 : lo < i
          · by_cases m1 : i < mid
            · go_wp2_with fail
              (refine (HIH.out l5 lo i mid u5 P5.out (by omega) (by omega) (by have := HEn.out; have := HO.out; have := HN.out; have := HSt.out; have := HMid.out; omega) (by have := HEn.out; have := HO.out; have := HN.out; have := HSt.out; have := HMid.out; omega) R5.out).mono ?_); rintro _ u6 ⟨l6, h1, rfl, h3, h4⟩; have P6 : Hid (l6.Perm l) := h1.trans P5.out; have R6 : Hid (SRow ps u6 g l6 rest) := h3; (have K6 : Hid (Kept (fun b => b ≠ g) w u6) := keptW_on K5.out h4 fun _ _ h => h); clear h1 h3 h4; by_cases k2 : mid < en
              · by_cases m2 : en < hi
                · go_wp2_with fail
                  (refine (HIH.out l6 mid en hi u6 P6.out (by omega) (by omega) (by have := HEn.out; have := HO.out; have := HN.out; have := HSt.out; have := HMid.out; omega) (by have := HEn.out; have := HO.out; have := HN.out; have := HSt.out; have := HMid.out; omega) R6.out).mono ?_); rintro _ u7 ⟨l7, h1, rfl, h3, h4⟩; have P7 : Hid (l7.Perm l) := h1.trans P6.out; have R7 : Hid (SRow ps u7 g l7 rest) := h3; (have K7 : Hid (Kept (fun b => b ≠ g) w u7) := keptW_on K6.out h4 fun _ _ h => h); clear h1 h3 h4; go_wp2_with fail
                  go_end0
                  exact ⟨l7, P7.out, rfl, R7.out, K7.out⟩
                · have d2 : decide (en < hi) = false := decide_eq_false m2
                  go_wp2_with fail
                  go_end0
                  exact ⟨l6, P6.out, rfl, R6.out, K6.out⟩
              · have d2 : decide (mid < en) = false := decide_eq_false k2
                go_wp2_with fail
                go_end0
                exact ⟨l6, P6.out, rfl, R6.out, K6.out⟩
            · have d1 : decide (i < mid) = false := decide_eq_false m1
              by_cases k2 : mid < en
              · by_cases m2 : en < hi
                · go_wp2_with fail
                  (refine (HIH.out l5 mid en hi u5 P5.out (by omega) (by omega) (by have := HEn.out; have := HO.out; have := HN.out; have := HSt.out; have := HMid.out; omega) (by have := HEn.out; have := HO.out; have := HN.out; have := HSt.out; have := HMid.out; omega) R5.out).mono ?_); rintro _ u7 ⟨l7, h1, rfl, h3, h4⟩; have P7 : Hid (l7.Perm l) := h1.trans P5.out; have R7 : Hid (SRow ps u7 g l7 rest) := h3; (have K7 : Hid (Kept (fun b => b ≠ g) w u7) := keptW_on K5.out h4 fun _ _ h => h); clear h1 h3 h4; go_wp2_with fail
                  go_end0
                  exact ⟨l7, P7.out, rfl, R7.out, K7.out⟩
                · have d2 : decide (en < hi) = false := decide_eq_false m2
                  go_wp2_with fail
                  go_end0
                  exact ⟨l5, P5.out, rfl, R5.out, K5.out⟩
              · have d2 : decide (mid < en) = false := decide_eq_false k2
                go_wp2_with fail
                go_end0
                exact ⟨l5, P5.out, rfl, R5.out, K5.out⟩
          · have d1 : decide (lo < i) = false := decide_eq_false k1
            by_cases k2 : mid < en
            · by_cases m2 : en < hi
              · go_wp2_with fail
                (refine (HIH.out l5 mid en hi u5 P5.out (by omega) (by omega) (by have := HEn.out; have := HO.out; have := HN.out; have := HSt.out; have := HMid.out; omega) (by have := HEn.out; have := HO.out; have := HN.out; have := HSt.out; have := HMid.out; omega) R5.out).mono ?_); rintro _ u7 ⟨l7, h1, rfl, h3, h4⟩; have P7 : Hid (l7.Perm l) := h1.trans P5.out; have R7 : Hid (SRow ps u7 g l7 rest) := h3; (have K7 : Hid (Kept (fun b => b ≠ g) w u7) := keptW_on K5.out h4 fun _ _ h => h); clear h1 h3 h4; go_wp2_with fail
                go_end0
                exact ⟨l7, P7.out, rfl, R7.out, K7.out⟩
              · have d2 : decide (en < hi) = false := decide_eq_false m2
                go_wp2_with fail
                go_end0
                exact ⟨l5, P5.out, rfl, R5.out, K5.out⟩
            · have d2 : decide (mid < en) = false := decide_eq_false k2
              go_wp2_with fail
              go_end0
              exact ⟨l5, P5.out, rfl, R5.out, K5.out⟩
        · have d0 : decide (md < en) = false := decide_eq_false m0
          by_cases k1 : lo < i
          · by_cases m1 : i < mid
            · go_wp2_with fail
              (refine (HIH.out l lo i mid wr HPw.out (by omega) (by omega) (by have := HEn.out; have := HO.out; have := HN.out; have := HSt.out; have := HMid.out; omega) (by have := HEn.out; have := HO.out; have := HN.out; have := HSt.out; have := HMid.out; omega) HRw.out).mono ?_); rintro _ u6 ⟨l6, h1, rfl, h3, h4⟩; have P6 : Hid (l6.Perm l) := h1.trans HPw.out; have R6 : Hid (SRow ps u6 g l6 rest) := h3; (have K6 : Hid (Kept (fun b => b ≠ g) w u6) := keptW_on HKw.out h4 fun _ _ h => h); clear h1 h3 h4; by_cases k2 : mid < en
              · by_cases m2 : en < hi
                · go_wp2_with fail
                  (refine (HIH.out l6 mid en hi u6 P6.out (by omega) (by omega) (by have := HEn.out; have := HO.out; have := HN.out; have := HSt.out; have := HMid.out; omega) (by have := HEn.out; have := HO.out; have := HN.out; have := HSt.out; have := HMid.out; omega) R6.out).mono ?_); rintro _ u7 ⟨l7, h1, rfl, h3, h4⟩; have P7 : Hid (l7.Perm l) := h1.trans P6.out; have R7 : Hid (SRow ps u7 g l7 rest) := h3; (have K7 : Hid (Kept (fun b => b ≠ g) w u7) := keptW_on K6.out h4 fun _ _ h => h); clear h1 h3 h4; go_wp2_with fail
                  go_end0
                  exact ⟨l7, P7.out, rfl, R7.out, K7.out⟩
                · have d2 : decide (en < hi) = false := decide_eq_false m2
                  go_wp2_with fail
                  go_end0
                  exact ⟨l6, P6.out, rfl, R6.out, K6.out⟩
              · have d2 : decide (mid < en) = false := decide_eq_false k2
                go_wp2_with fail
                go_end0
                exact ⟨l6, P6.out, rfl, R6.out, K6.out⟩
            · have d1 : decide (i < mid) = false := decide_eq_false m1
              by_cases k2 : mid < en
              · by_cases m2 : en < hi
                · go_wp2_with fail
                  (refine (HIH.out l mid en hi wr HPw.out (by omega) (by omega) (by have := HEn.out; have := HO.out; have := HN.out; have := HSt.out; have := HMid.out; omega) (by have := HEn.out; have := HO.out; have := HN.out; have := HSt.out; have := HMid.out; omega) HRw.out).mono ?_); rintro _ u7 ⟨l7, h1, rfl, h3, h4⟩; have P7 : Hid (l7.Perm l) := h1.trans HPw.out; have R7 : Hid (SRow ps u7 g l7 rest) := h3; (have K7 : Hid (Kept (fun b => b ≠ g) w u7) := keptW_on HKw.out h4 fun _ _ h => h); clear h1 h3 h4; go_wp2_with fail
                  go_end0
                  exact ⟨l7, P7.out, rfl, R7.out, K7.out⟩
                · have d2 : decide (en < hi) = false := decide_eq_false m2
                  go_wp2_with fail
                  go_end0
                  exact ⟨l, HPw.out, rfl, HRw.out, HKw.out⟩
              · have d2 : decide (mid < en) = false := decide_eq_false k2
                go_wp2_with fail
                go_end0
                exact ⟨l, HPw.out, rfl, HRw.out, HKw.out⟩
          · have d1 : decide (lo < i) = false := decide_eq_false k1
            by_cases k2 : mid < en
            · by_cases m2 : en < hi
              · go_wp2_with fail
                (refine (HIH.out l mid en hi wr HPw.out (by omega) (by omega) (by have := HEn.out; have := HO.out; have := HN.out; have := HSt.out; have := HMid.out; omega) (by have := HEn.out; have := HO.out; have := HN.out; have := HSt.out; have := HMid.out; omega) HRw.out).mono ?_); rintro _ u7 ⟨l7, h1, rfl, h3, h4⟩; have P7 : Hid (l7.Perm l) := h1.trans HPw.out; have R7 : Hid (SRow ps u7 g l7 rest) := h3; (have K7 : Hid (Kept (fun b => b ≠ g) w u7) := keptW_on HKw.out h4 fun _ _ h => h); clear h1 h3 h4; go_wp2_with fail
                go_end0
                exact ⟨l7, P7.out, rfl, R7.out, K7.out⟩
              · have d2 : decide (en < hi) = false := decide_eq_false m2
                go_wp2_with fail
                go_end0
                exact ⟨l, HPw.out, rfl, HRw.out, HKw.out⟩
            · have d2 : decide (mid < en) = false := decide_eq_false k2
              go_wp2_with fail
              go_end0
              exact ⟨l, HPw.out, rfl, HRw.out, HKw.out⟩
      · have d0 : decide (i < md) = false := decide_eq_false k0
        by_cases k1 : lo < i
        · by_cases m1 : i < mid
          · go_wp2_with fail
            (refine (HIH.out l lo i mid wr HPw.out (by omega) (by omega) (by have := HEn.out; have := HO.out; have := HN.out; have := HSt.out; have := HMid.out; omega) (by have := HEn.out; have := HO.out; have := HN.out; have := HSt.out; have := HMid.out; omega) HRw.out).mono ?_); rintro _ u6 ⟨l6, h1, rfl, h3, h4⟩; have P6 : Hid (l6.Perm l) := h1.trans HPw.out; have R6 : Hid (SRow ps u6 g l6 rest) := h3; (have K6 : Hid (Kept (fun b => b ≠ g) w u6) := keptW_on HKw.out h4 fun _ _ h => h); clear h1 h3 h4; by_cases k2 : mid < en
            · by_cases m2 : en < hi
              · go_wp2_with fail
                (refine (HIH.out l6 mid en hi u6 P6.out (by omega) (by omega) (by have := HEn.out; have := HO.out; have := HN.out; have := HSt.out; have := HMid.out; omega) (by have := HEn.out; have := HO.out; have := HN.out; have := HSt.out; have := HMid.out; omega) R6.out).mono ?_); rintro _ u7 ⟨l7, h1, rfl, h3, h4⟩; have P7 : Hid (l7.Perm l) := h1.trans P6.out; have R7 : Hid (SRow ps u7 g l7 rest) := h3; (have K7 : Hid (Kept (fun b => b ≠ g) w u7) := keptW_on K6.out h4 fun _ _ h => h); clear h1 h3 h4; go_wp2_with fail
                go_end0
                exact ⟨l7, P7.out, rfl, R7.out, K7.out⟩
              · have d2 : decide (en < hi) = false := decide_eq_false m2
                go_wp2_with fail
                go_end0
                exact ⟨l6, P6.out, rfl, R6.out, K6.out⟩
            · have d2 : decide (mid < en) = false := decide_eq_false k2
              go_wp2_with fail
              go_end0
              exact ⟨l6, P6.out, rfl, R6.out, K6.out⟩
          · have d1 : decide (i < mid) = false := decide_eq_false m1
            by_cases k2 : mid < en
            · by_cases m2 : en < hi
              · go_wp2_with fail
                (refine (HIH.out l mid en hi wr HPw.out (by omega) (by omega) (by have := HEn.out; have := HO.out; have := HN.out; have := HSt.out; have := HMid.out; omega) (by have := HEn.out; have := HO.out; have := HN.out; have := HSt.out; have := HMid.out; omega) HRw.out).mono ?_); rintro _ u7 ⟨l7, h1, rfl, h3, h4⟩; have P7 : Hid (l7.Perm l) := h1.trans HPw.out; have R7 : Hid (SRow ps u7 g l7 rest) := h3; (have K7 : Hid (Kept (fun b => b ≠ g) w u7) := keptW_on HKw.out h4 fun _ _ h => h); clear h1 h3 h4; go_wp2_with fail
                go_end0
                exact ⟨l7, P7.out, rfl, R7.out, K7.out⟩
              · have d2 : decide (en < hi) = false := decide_eq_false m2
                go_wp2_with fail
                go_end0
                exact ⟨l, HPw.out, rfl, HRw.out, HKw.out⟩
            · have d2 : decide (mid < en) = false := decide_eq_false k2
              go_wp2_with fail
              go_end0
              exact ⟨l, HPw.out, rfl, HRw.out, HKw.out⟩
        · have d1 : decide (lo < i) = false := decide_eq_false k1
          by_cases k2 : mid < en
          · by_cases m2 : en < hi
            · go_wp2_with fail
              (refine (HIH.out l mid en hi wr HPw.out (by omega) (by omega) (by have := HEn.out; have := HO.out; have := HN.out; have := HSt.out; have := HMid.out; omega) (by have := HEn.out; have := HO.out; have := HN.out; have := HSt.out; have := HMid.out; omega) HRw.out).mono ?_); rintro _ u7 ⟨l7, h1, rfl, h3, h4⟩; have P7 : Hid (l7.Perm l) := h1.trans HPw.out; have R7 : Hid (SRow ps u7 g l7 rest) := h3; (have K7 : Hid (Kept (fun b => b ≠ g) w u7) := keptW_on HKw.out h4 fun _ _ h => h); clear h1 h3 h4; go_wp2_with fail
              go_end0
              exact ⟨l7, P7.out, rfl, R7.out, K7.out⟩
            · have d2 : decide (en < hi) = false := decide_eq_false m2
              go_wp2_with fail
              go_end0
              exact ⟨l, HPw.out, rfl, HRw.out, HKw.out⟩
          · have d2 : decide (mid < en) = false := decide_eq_false k2
            go_wp2_with fail
            go_end0
            exact ⟨l, HPw.out, rfl, HRw.out, HKw.out⟩
set_option maxRecDepth 10000 in
set_option maxHeartbeats 16000000 in
theorem symm_le {ps : List PartM} (g cap : Nat) (rest : List Value) (fuel : Nat) (ih : SymS ps g cap rest fuel) (l : List Nat) (lo md hi : Nat) (w : World) (hl : l.length ≤ 100000) (hc : l.length ≤ cap) (h1 : lo < md) (h2 : md < hi) (h3 : hi ≤ l.length) (h4 : hi - lo < fuel + 1) (hr : SRow ps w g l rest) (hcase : md - lo ≠ 1 ∧ hi - md ≠ 1 ∧ md ≤ (lo + hi) / 2) :
    Calls Try.prog 142 #[.slice (some ⟨g, 0, none⟩) l.length cap, .int .i64 (lo : Nat), .int .i64 (md : Nat), .int .i64 (hi : Nat), .func (.func 111) #[] #[]] w fun e w' => SortP ps g l rest w e w' := by
  have HR : Hid (SRow ps w g l rest) := hr; (have HCm : Hid (∀ u v W, Calls Try.prog 111 #[WV ps u, WV ps v] W _) := fun u v W => cmpW_any ps u v W)
  have HRo : Hid (∀ (l1 : List Nat) (x y z : Nat) (W : World), l1.Perm l → x < y → y < z → z ≤ l.length → SRow ps W g l1 rest → Calls Try.prog 144 #[.slice (some ⟨g, 0, none⟩) l.length cap, .int .i64 (x : Nat), .int .i64 (y : Nat), .int .i64 (z : Nat), .func (.func 111) #[] #[]] W fun e w' => SortP ps g l1 rest W e w') := fun l1 x y z W hp q1 q2 q3 q4 => by
    (have := rotate_any (ps := ps) g cap (.func (.func 111) #[] #[]) rest l1 (by rw [hp.length_eq]; exact hl) (by rw [hp.length_eq]; exact hc) x y z q1 q2 (by rw [hp.length_eq]; exact q3) W q4)
    rwa [hp.length_eq] at this
  have HIH : Hid (∀ (l1 : List Nat) (x y z : Nat) (W : World), l1.Perm l → x < y → y < z → z ≤ l.length → z - x < fuel → SRow ps W g l1 rest → Calls Try.prog 142 #[.slice (some ⟨g, 0, none⟩) l.length cap, .int .i64 (x : Nat), .int .i64 (y : Nat), .int .i64 (z : Nat), .func (.func 111) #[] #[]] W fun e w' => SortP ps g l1 rest W e w') := fun l1 x y z W hp q1 q2 q3 q4 q5 => by
    (have := ih l1 x y z W (by rw [hp.length_eq]; exact hl) (by rw [hp.length_eq]; exact hc) q1 q2 (by rw [hp.length_eq]; exact q3) q4 q5)
    rwa [hp.length_eq] at this
  have hcf := worlds1_in; have HO : Hid (lo < md ∧ md < hi ∧ hi ≤ l.length ∧ l.length ≤ 100000 ∧ l.length ≤ cap ∧ hi - lo < fuel + 1) := ⟨h1, h2, h3, hl, hc, h4⟩; (have hlI : (l.length : Int) ≤ 100000 := by omega); (have hmI : (md : Int) ≤ 100000 := by omega); (have hhI9 : (hi : Int) ≤ 100000 := by omega); (have hloI : (lo : Int) ≤ 100000 := by omega); unfold WV at HCm; obtain ⟨ml, hml0⟩ : ∃ ml, ml = md - lo := ⟨_, rfl⟩; (have hml : (md : Int) - (lo : Int) = (ml : Int) := by omega); (have hml1 : ((ml : Int) == 1) = false := by simp; omega); obtain ⟨hm, hhm0⟩ : ∃ ml, ml = hi - md := ⟨_, rfl⟩; (have hhm : (hi : Int) - (md : Int) = (hm : Int) := by omega); (have hhm1 : ((hm : Int) == 1) = false := by simp; omega); obtain ⟨mid, hmid⟩ : ∃ mid, mid = (lo + hi) / 2 := ⟨_, rfl⟩; (have hmidI : ((lo : Int) + (hi : Int)) / 2 = (mid : Int) := by omega); obtain ⟨nn, hnn⟩ : ∃ nn, nn = mid + md := ⟨_, rfl⟩; (have hnnI : (mid : Int) + (md : Int) = (nn : Int) := by omega); obtain ⟨pp, hpp⟩ : ∃ pp, pp = nn - 1 := ⟨_, rfl⟩; (have hppI : (nn : Int) - 1 = (pp : Int) := by omega); (have hmid2 : (mid : Int) ≤ 100000 := by omega); (have hnn2 : (nn : Int) ≤ 200000 := by omega); (have hpp2 : (pp : Int) ≤ 200000 := by omega); (have HMid : Hid (lo < mid ∧ mid < hi) := by show _ ∧ _; omega); (have HN : Hid (nn = mid + md ∧ pp = nn - 1 ∧ mid = (lo + hi) / 2 ∧ md ≤ mid) := ⟨hnn, hpp, hmid, by rw [hmid]; exact hcase.2.2⟩); (have hgt : decide (mid < md) = false := decide_eq_false (by omega)); clear hml0 hhm0 hmid hnn hpp; clear h1 h2 h3 h4 hl hc hr ih hcase
  go_enter Try.func142, Try.ntmps142
  go_wp2_with fail; clear hml hml1 hhm hhm1 hmidI hnnI hppI hgt
  go_loopg [20, 21] (md - lo) (fun gg c d wr => ∃ i j, gg = j - i ∧ c = .int .i64 (i : Nat) ∧ d = .int .i64 (j : Nat) ∧ Hid (lo ≤ i ∧ i ≤ j ∧ j ≤ md) ∧ Hid (Below w.heap.size w wr))
  case atStart => exact ⟨lo, md, rfl, by go_num, by go_num, by have := HO.out; show _ ∧ _; omega, Below.refl _ _⟩
  case round =>
    obtain ⟨i, j, hg, rfl, rfl, HIJ, HB⟩ := hrel; have HGk : Hid (gk = j - i) := hg; (have hiI : (i : Int) ≤ 100000 := by have := HIJ.out; have := HO.out; omega); (have hjI : (j : Int) ≤ 100000 := by have := HIJ.out; have := HO.out; omega); clear hg; by_cases hij : i < j
    · obtain ⟨hx, hhx⟩ : ∃ hx, hx = (i + j) / 2 := ⟨_, rfl⟩
      (have hhI : ((i : Int) + (j : Int)) / 2 = (hx : Int) := by omega); (have HX : Hid (i ≤ hx ∧ hx < j) := by show _ ∧ _; omega); (have hxI : (hx : Int) ≤ 100000 := by have := HX.out; omega); obtain ⟨pc, hpc⟩ : ∃ pc, pc = pp - hx := ⟨_, rfl⟩; (have hpcI : (pp : Int) - (hx : Int) = (pc : Int) := by have := HN.out; have := HX.out; have := HIJ.out; have := HO.out; omega); have HPc : Hid (pc = pp - hx) := hpc; (have hpcw : IntKind.i64.wrap (pc : Int) = (pc : Int) := wrap_small pc (by have := HN.out; have := HO.out; omega)); (have HPl : Hid (pc < l.length) := by have := HN.out; have := HX.out; have := HIJ.out; have := HO.out; show _ < _; omega); have hpl := HPl.out; (obtain ⟨xa, hxa⟩ : ∃ x, l[pc]? = some x := ⟨_, List.getElem?_eq_getElem (by have := HO.out; have := HX.out; have := HIJ.out; omega)⟩); (obtain ⟨xb, hxb⟩ : ∃ x, l[hx]? = some x := ⟨_, List.getElem?_eq_getElem (by have := HO.out; have := HX.out; have := HIJ.out; omega)⟩); have HXa : Hid (l[pc]? = some xa) := hxa; have HXb : Hid (l[hx]? = some xb) := hxb; (have b1 : (pc : Int) < (l.length : Int) := by have := HO.out; have := HX.out; have := HIJ.out; omega); (have b2 : (hx : Int) < (l.length : Int) := by have := HO.out; have := HX.out; have := HIJ.out; omega); (have b3 : (pc : Int) < (cap : Int) := by have := HO.out; omega); (have b4 : (hx : Int) < (cap : Int) := by have := HO.out; omega); clear hxa hxb hhx hpl hpc; go_wp2_with fail; clear hij hhI; (refine wp_region_free (by kernel_rfl) [fun v _ => v = (.func (.func 111) #[] #[]), fun v _ => v = (.slice (some ⟨g, 0, none⟩) l.length cap), fun v _ => v = (.int .i64 (pp : Nat)), fun v _ => v = (.int .i64 (hx : Nat)), fun v _ => v = (.int .i64 (pc : Nat)), fun v _ => v = (.pointer (some ⟨g, pc * 3, none⟩)), fun v _ => v = (.agg #[.int .u64 (xa : Nat), .int .u64 (bm ps.length (wnB ps xa) : Nat), .int .u64 (bm ps.length (swB ps xa) : Nat)]), fun v _ => v = (.slice (some ⟨g, 0, none⟩) l.length cap), fun v _ => v = (.int .i64 (hx : Nat)), fun v _ => v = (.pointer (some ⟨g, hx * 3, none⟩)), fun v _ => v = (.agg #[.int .u64 (xb : Nat), .int .u64 (bm ps.length (wnB ps xb) : Nat), .int .u64 (bm ps.length (swB ps xb) : Nat)]), kInt, kBo, kBo] ?_ (by kernel_rfl) (by kernel_rfl) 220 rfl (by kernel_rfl) ?_ ?_)
      · intro p hp
        simp only [List.mem_cons, List.not_mem_nil, or_false] at hp
        rcases hp with rfl | rfl | rfl | rfl | rfl | rfl | rfl | rfl | rfl | rfl | rfl | rfl | rfl | rfl
        · exact fun _ _ _ h _ => h
        · exact fun _ _ _ h _ => h
        · exact fun _ _ _ h _ => h
        · exact fun _ _ _ h _ => h
        · exact fun _ _ _ h _ => h
        · exact fun _ _ _ h _ => h
        · exact fun _ _ _ h _ => h
        · exact fun _ _ _ h _ => h
        · exact fun _ _ _ h _ => h
        · exact fun _ _ _ h _ => h
        · exact fun _ _ _ h _ => h
        · exact kInt_stays
        · exact kBo_stays
        · exact kBo_stays
      · refine ⟨?_, ?_, ?_, ?_, ?_, ?_, ?_, ?_, ?_, ?_, ?_, ?_, ?_, ?_, trivial⟩
        · intro a wx hB hold hdep K hK
          have t4 : a.tmps[4]? = some (.func (.func 111) #[] #[]) := hold.2.2 4 rfl; clear hold hdep; go_simp; exact hK.out _ _ rfl (Below.refl _ _)
        · intro a wx hB hold hdep K hK
          have t0 : a.tmps[0]? = some (.slice (some ⟨g, 0, none⟩) l.length cap) := hold.2.2 0 rfl; clear hold hdep; go_simp; exact hK.out _ _ rfl (Below.refl _ _)
        · intro a wx hB hold hdep K hK
          have t22 : a.tmps[22]? = some (.int .i64 (pp : Nat)) := hold.2.2 22 rfl; clear hold hdep; go_simp; exact hK.out _ _ rfl (Below.refl _ _)
        · intro a wx hB hold hdep K hK
          have t23 : a.tmps[23]? = some (.int .i64 (hx : Nat)) := hold.2.2 23 rfl; clear hold hdep; go_simp; exact hK.out _ _ rfl (Below.refl _ _)
        · intro a wx hB hold hdep K hK
          obtain ⟨v160, t160, p160⟩ := hdep 2 rfl _ 160 rfl rfl; have e160 : v160 = (.int .i64 (pp : Nat)) := p160; subst e160; obtain ⟨v161, t161, p161⟩ := hdep 3 rfl _ 161 rfl rfl; have e161 : v161 = (.int .i64 (hx : Nat)) := p161; subst e161; clear hold hdep; go_simp; exact hK.out _ _ rfl (Below.refl _ _)
        · intro a wx hB hold hdep K hK
          obtain ⟨v159, t159, p159⟩ := hdep 1 rfl _ 159 rfl rfl; have e159 : v159 = (.slice (some ⟨g, 0, none⟩) l.length cap) := p159; subst e159; obtain ⟨v162, t162, p162⟩ := hdep 4 rfl _ 162 rfl rfl; have e162 : v162 = (.int .i64 (pc : Nat)) := p162; subst e162; clear hold hdep; go_simp; exact hK.out _ _ rfl (Below.refl _ _)
        · intro a wx hB hold hdep K hK
          obtain ⟨v163, t163, p163⟩ := hdep 5 rfl _ 163 rfl rfl; have e163 : v163 = (.pointer (some ⟨g, pc * 3, none⟩)) := p163; subst e163; obtain ⟨q0, q1, q2, -⟩ := ((HR.out.up HB.out).up hB).cells HXa.out; clear hold hdep; go_simp; exact hK.out _ _ rfl (Below.refl _ _)
        · intro a wx hB hold hdep K hK
          have t0 : a.tmps[0]? = some (.slice (some ⟨g, 0, none⟩) l.length cap) := hold.2.2 0 rfl; clear hold hdep; go_simp; exact hK.out _ _ rfl (Below.refl _ _)
        · intro a wx hB hold hdep K hK
          have t23 : a.tmps[23]? = some (.int .i64 (hx : Nat)) := hold.2.2 23 rfl; clear hold hdep; go_simp; exact hK.out _ _ rfl (Below.refl _ _)
        · intro a wx hB hold hdep K hK
          obtain ⟨v165, t165, p165⟩ := hdep 7 rfl _ 165 rfl rfl; have e165 : v165 = (.slice (some ⟨g, 0, none⟩) l.length cap) := p165; subst e165; obtain ⟨v166, t166, p166⟩ := hdep 8 rfl _ 166 rfl rfl; have e166 : v166 = (.int .i64 (hx : Nat)) := p166; subst e166; clear hold hdep; go_simp; exact hK.out _ _ rfl (Below.refl _ _)
        · intro a wx hB hold hdep K hK
          obtain ⟨v167, t167, p167⟩ := hdep 9 rfl _ 167 rfl rfl; have e167 : v167 = (.pointer (some ⟨g, hx * 3, none⟩)) := p167; subst e167; obtain ⟨q0, q1, q2, -⟩ := ((HR.out.up HB.out).up hB).cells HXb.out; clear hold hdep; go_simp; exact hK.out _ _ rfl (Below.refl _ _)
        · intro a wx hB hold hdep K hK
          obtain ⟨v158, t158, p158⟩ := hdep 0 rfl _ 158 rfl rfl; have e158 : v158 = (.func (.func 111) #[] #[]) := p158; subst e158; obtain ⟨v164, t164, p164⟩ := hdep 6 rfl _ 164 rfl rfl; have e164 : v164 = (.agg #[.int .u64 (xa : Nat), .int .u64 (bm ps.length (wnB ps xa) : Nat), .int .u64 (bm ps.length (swB ps xa) : Nat)]) := p164; subst e164; obtain ⟨v168, t168, p168⟩ := hdep 10 rfl _ 168 rfl rfl; have e168 : v168 = (.agg #[.int .u64 (xb : Nat), .int .u64 (bm ps.length (wnB ps xb) : Nat), .int .u64 (bm ps.length (swB ps xb) : Nat)]) := p168; subst e168; have HW : Hid (Calls Try.prog 111 #[.agg #[.int .u64 (xa : Nat), .int .u64 (bm ps.length (wnB ps xa) : Nat), .int .u64 (bm ps.length (swB ps xa) : Nat)], .agg #[.int .u64 (xb : Nat), .int .u64 (bm ps.length (wnB ps xb) : Nat), .int .u64 (bm ps.length (swB ps xb) : Nat)]] wx _) := HCm.out xa xb wx; clear hold hdep; go_simp; refine HW.out.mono ?_; rintro _ w9 ⟨⟨c9, rfl⟩, hb9⟩; go_simp; exact hK.out _ _ ⟨_, rfl⟩ hb9
        · intro a wx hB hold hdep K hK
          obtain ⟨v169, t169, p169⟩ := hdep 11 rfl _ 169 rfl rfl; have P169 : Hid ((kInt) v169 wx) := p169; clear p169; obtain ⟨c9, rfl⟩ := P169.out; clear P169; clear hold hdep; go_simp; exact hK.out _ _ ⟨_, rfl⟩ (Below.refl _ _)
        · intro a wx hB hold hdep K hK
          obtain ⟨v170, t170, p170⟩ := hdep 12 rfl _ 170 rfl rfl; have P170 : Hid ((kBo) v170 wx) := p170; clear p170; obtain ⟨c9, rfl⟩ := P170.out; clear P170; clear hold hdep; go_simp; exact hK.out _ _ ⟨_, rfl⟩ (Below.refl _ _)
      · intro a wx hB hold hgot
        obtain ⟨vZ, tvZ, pvZ⟩ := hgot 13 _ 171 rfl rfl; obtain ⟨bz, rfl⟩ := pvZ; have HBx : Hid (Below wr.heap.size wr wx) := hB; obtain ⟨tm, df⟩ := a; (obtain ⟨ys, hys, htm, rfl⟩ := frame_mid2 158 14 (by kernel_rfl) (Nat.le_of_ble_eq_true rfl) hold); obtain ⟨x158, x159, x160, x161, x162, x163, x164, x165, x166, x167, x168, x169, x170, x171, rfl⟩ := rowW14 ys hys; simp only [List.take_succ_cons, List.take_zero, List.drop_succ_cons, List.drop_zero, List.cons_append, List.nil_append] at htm; subst htm; obtain rfl : x171 = _ := someInjM tvZ; clear hys hold hgot tvZ hB; have HB2 : Hid (Below w.heap.size w wx) := below_join HB.out HBx.out; clear HBx HXa HXb
        cases bz
        · go_wp2_with fail
          go_roundg (hx - i)
          case measure => have := HGk.out; have := HX.out; omega
          case rel => exact ⟨i, hx, rfl, by go_num, by go_num, by have := HX.out; have := HIJ.out; show _ ∧ _; omega, HB2⟩
        · go_wp2_with fail
          go_roundg (j - (hx + 1))
          case measure => have := HGk.out; have := HX.out; omega
          case rel => exact ⟨hx + 1, j, rfl, by go_num, by go_num, by have := HX.out; have := HIJ.out; show _ ∧ _; omega, HB2⟩
    · have hij2 : decide (i < j) = false := decide_eq_false hij
      (have HE : Hid (i = j) := by have := HIJ.out; show _ = _; omega); clear hij; obtain ⟨en, hen⟩ : ∃ en, en = nn - i := ⟨_, rfl⟩; (have henI : (nn : Int) - (i : Int) = (en : Int) := by have := HN.out; have := HIJ.out; have := HO.out; omega); (have HEn : Hid (en ≤ hi ∧ mid ≤ en + 0 ∧ lo ≤ i ∧ i ≤ mid ∧ i ≤ md ∧ en = nn - i) := by have := HN.out; have := HIJ.out; have := HO.out; show _ ∧ _; omega); (have hen2 : (en : Int) ≤ 100000 := by have := HEn.out; have := HO.out; omega); have HRw : Hid (SRow ps wr g l rest) := HR.out.up HB.out; (have HKw : Hid (Kept (fun b => b ≠ g) w wr) := Kept.belowK (Kept.refl _ _) HB.out); have HPw : Hid (l.Perm l) := List.Perm.refl _; clear hen; by_cases k0 : i < md
      · by_cases m0 : md < en
        · go_wp2_with fail
          (refine (HRo.out l i md en wr HPw.out (by omega) (by omega) (by have := HEn.out; have := HO.out; have := HMid.out; omega) HRw.out).mono ?_); rintro _ u5 ⟨l5, h1, rfl, h3, h4⟩; have P5 : Hid (l5.Perm l) := h1.trans HPw.out; have R5 : Hid (SRow ps u5 g l5 rest) := h3; (have K5 : Hid (Kept (fun b => b ≠ g) w u5) := keptW_on HKw.out h4 fun _ _ h => h); clear h1 h3 h4; by_cases k1 : lo < i
          · by_cases m1 : i < mid
            · go_wp2_with fail
              (refine (HIH.out l5 lo i mid u5 P5.out (by omega) (by omega) (by have := HEn.out; have := HO.out; have := HMid.out; omega) (by have := HEn.out; have := HO.out; have := HMid.out; omega) R5.out).mono ?_); rintro _ u6 ⟨l6, h1, rfl, h3, h4⟩; have P6 : Hid (l6.Perm l) := h1.trans P5.out; have R6 : Hid (SRow ps u6 g l6 rest) := h3; (have K6 : Hid (Kept (fun b => b ≠ g) w u6) := keptW_on K5.out h4 fun _ _ h => h); clear h1 h3 h4; by_cases k2 : mid < en
              · by_cases m2 : en < hi
                · go_wp2_with fail
                  (refine (HIH.out l6 mid en hi u6 P6.out (by omega) (by omega) (by have := HEn.out; have := HO.out; have := HMid.out; omega) (by have := HEn.out; have := HO.out; have := HMid.out; omega) R6.out).mono ?_); rintro _ u7 ⟨l7, h1, rfl, h3, h4⟩; have P7 : Hid (l7.Perm l) := h1.trans P6.out; have R7 : Hid (SRow ps u7 g l7 rest) := h3; (have K7 : Hid (Kept (fun b => b ≠ g) w u7) := keptW_on K6.out h4 fun _ _ h => h); clear h1 h3 h4; go_wp2_with fail
                  go_end0
                  exact ⟨l7, P7.out, rfl, R7.out, K7.out⟩
                · have d2 : decide (en < hi) = false := decide_eq_false m2
                  go_wp2_with fail
                  go_end0
                  exact ⟨l6, P6.out, rfl, R6.out, K6.out⟩
              · have d2 : decide (mid < en) = false := decide_eq_false k2
                go_wp2_with fail
                go_end0
                exact ⟨l6, P6.out, rfl, R6.out, K6.out⟩
            · have d1 : decide (i < mid) = false := decide_eq_false m1
              by_cases k2 : mid < en
              · by_cases m2 : en < hi
                · go_wp2_with fail
                  (refine (HIH.out l5 mid en hi u5 P5.out (by omega) (by omega) (by have := HEn.out; have := HO.out; have := HMid.out; omega) (by have := HEn.out; have := HO.out; have := HMid.out; omega) R5.out).mono ?_); rintro _ u7 ⟨l7, h1, rfl, h3, h4⟩; have P7 : Hid (l7.Perm l) := h1.trans P5.out; have R7 : Hid (SRow ps u7 g l7 rest) := h3; (have K7 : Hid (Kept (fun b => b ≠ g) w u7) := keptW_on K5.out h4 fun _ _ h => h); clear h1 h3 h4; go_wp2_with fail
                  go_end0
                  exact ⟨l7, P7.out, rfl, R7.out, K7.out⟩
                · have d2 : decide (en < hi) = false := decide_eq_false m2
                  go_wp2_with fail
                  go_end0
                  exact ⟨l5, P5.out, rfl, R5.out, K5.out⟩
              · have d2 : decide (mid < en) = false := decide_eq_false k2
                go_wp2_with fail
                go_end0
                exact ⟨l5, P5.out, rfl, R5.out, K5.out⟩
          · have d1 : decide (lo < i) = false := decide_eq_false k1
            by_cases k2 : mid < en
            · by_cases m2 : en < hi
              · go_wp2_with fail
                (refine (HIH.out l5 mid en hi u5 P5.out (by omega) (by omega) (by have := HEn.out; have := HO.out; have := HMid.out; omega) (by have := HEn.out; have := HO.out; have := HMid.out; omega) R5.out).mono ?_); rintro _ u7 ⟨l7, h1, rfl, h3, h4⟩; have P7 : Hid (l7.Perm l) := h1.trans P5.out; have R7 : Hid (SRow ps u7 g l7 rest) := h3; (have K7 : Hid (Kept (fun b => b ≠ g) w u7) := keptW_on K5.out h4 fun _ _ h => h); clear h1 h3 h4; go_wp2_with fail
                go_end0
                exact ⟨l7, P7.out, rfl, R7.out, K7.out⟩
              · have d2 : decide (en < hi) = false := decide_eq_false m2
                go_wp2_with fail
                go_end0
                exact ⟨l5, P5.out, rfl, R5.out, K5.out⟩
            · have d2 : decide (mid < en) = false := decide_eq_false k2
              go_wp2_with fail
              go_end0
              exact ⟨l5, P5.out, rfl, R5.out, K5.out⟩
        · have d0 : decide (md < en) = false := decide_eq_false m0
          by_cases k1 : lo < i
          · by_cases m1 : i < mid
            · go_wp2_with fail
              (refine (HIH.out l lo i mid wr HPw.out (by omega) (by omega) (by have := HEn.out; have := HO.out; have := HMid.out; omega) (by have := HEn.out; have := HO.out; have := HMid.out; omega) HRw.out).mono ?_); rintro _ u6 ⟨l6, h1, rfl, h3, h4⟩; have P6 : Hid (l6.Perm l) := h1.trans HPw.out; have R6 : Hid (SRow ps u6 g l6 rest) := h3; (have K6 : Hid (Kept (fun b => b ≠ g) w u6) := keptW_on HKw.out h4 fun _ _ h => h); clear h1 h3 h4; by_cases k2 : mid < en
              · by_cases m2 : en < hi
                · go_wp2_with fail
                  (refine (HIH.out l6 mid en hi u6 P6.out (by omega) (by omega) (by have := HEn.out; have := HO.out; have := HMid.out; omega) (by have := HEn.out; have := HO.out; have := HMid.out; omega) R6.out).mono ?_); rintro _ u7 ⟨l7, h1, rfl, h3, h4⟩; have P7 : Hid (l7.Perm l) := h1.trans P6.out; have R7 : Hid (SRow ps u7 g l7 rest) := h3; (have K7 : Hid (Kept (fun b => b ≠ g) w u7) := keptW_on K6.out h4 fun _ _ h => h); clear h1 h3 h4; go_wp2_with fail
                  go_end0
                  exact ⟨l7, P7.out, rfl, R7.out, K7.out⟩
                · have d2 : decide (en < hi) = false := decide_eq_false m2
                  go_wp2_with fail
                  go_end0
                  exact ⟨l6, P6.out, rfl, R6.out, K6.out⟩
              · have d2 : decide (mid < en) = false := decide_eq_false k2
                go_wp2_with fail
                go_end0
                exact ⟨l6, P6.out, rfl, R6.out, K6.out⟩
            · have d1 : decide (i < mid) = false := decide_eq_false m1
              by_cases k2 : mid < en
              · by_cases m2 : en < hi
                · go_wp2_with fail
                  (refine (HIH.out l mid en hi wr HPw.out (by omega) (by omega) (by have := HEn.out; have := HO.out; have := HMid.out; omega) (by have := HEn.out; have := HO.out; have := HMid.out; omega) HRw.out).mono ?_); rintro _ u7 ⟨l7, h1, rfl, h3, h4⟩; have P7 : Hid (l7.Perm l) := h1.trans HPw.out; have R7 : Hid (SRow ps u7 g l7 rest) := h3; (have K7 : Hid (Kept (fun b => b ≠ g) w u7) := keptW_on HKw.out h4 fun _ _ h => h); clear h1 h3 h4; go_wp2_with fail
                  go_end0
                  exact ⟨l7, P7.out, rfl, R7.out, K7.out⟩
                · have d2 : decide (en < hi) = false := decide_eq_false m2
                  go_wp2_with fail
                  go_end0
                  exact ⟨l, HPw.out, rfl, HRw.out, HKw.out⟩
              · have d2 : decide (mid < en) = false := decide_eq_false k2
                go_wp2_with fail
                go_end0
                exact ⟨l, HPw.out, rfl, HRw.out, HKw.out⟩
          · have d1 : decide (lo < i) = false := decide_eq_false k1
            by_cases k2 : mid < en
            · by_cases m2 : en < hi
              · go_wp2_with fail
                (refine (HIH.out l mid en hi wr HPw.out (by omega) (by omega) (by have := HEn.out; have := HO.out; have := HMid.out; omega) (by have := HEn.out; have := HO.out; have := HMid.out; omega) HRw.out).mono ?_); rintro _ u7 ⟨l7, h1, rfl, h3, h4⟩; have P7 : Hid (l7.Perm l) := h1.trans HPw.out; have R7 : Hid (SRow ps u7 g l7 rest) := h3; (have K7 : Hid (Kept (fun b => b ≠ g) w u7) := keptW_on HKw.out h4 fun _ _ h => h); clear h1 h3 h4; go_wp2_with fail
                go_end0
                exact ⟨l7, P7.out, rfl, R7.out, K7.out⟩
              · have d2 : decide (en < hi) = false := decide_eq_false m2
                go_wp2_with fail
                go_end0
                exact ⟨l, HPw.out, rfl, HRw.out, HKw.out⟩
            · have d2 : decide (mid < en) = false := decide_eq_false k2
              go_wp2_with fail
              go_end0
              exact ⟨l, HPw.out, rfl, HRw.out, HKw.out⟩
      · have d0 : decide (i < md) = false := decide_eq_false k0
        by_cases k1 : lo < i
        · by_cases m1 : i < mid
          · go_wp2_with fail
            (refine (HIH.out l lo i mid wr HPw.out (by omega) (by omega) (by have := HEn.out; have := HO.out; have := HMid.out; omega) (by have := HEn.out; have := HO.out; have := HMid.out; omega) HRw.out).mono ?_); rintro _ u6 ⟨l6, h1, rfl, h3, h4⟩; have P6 : Hid (l6.Perm l) := h1.trans HPw.out; have R6 : Hid (SRow ps u6 g l6 rest) := h3; (have K6 : Hid (Kept (fun b => b ≠ g) w u6) := keptW_on HKw.out h4 fun _ _ h => h); clear h1 h3 h4; by_cases k2 : mid < en
            · by_cases m2 : en < hi
              · go_wp2_with fail
                (refine (HIH.out l6 mid en hi u6 P6.out (by omega) (by omega) (by have := HEn.out; have := HO.out; have := HMid.out; omega) (by have := HEn.out; have := HO.out; have := HMid.out; omega) R6.out).mono ?_); rintro _ u7 ⟨l7, h1, rfl, h3, h4⟩; have P7 : Hid (l7.Perm l) := h1.trans P6.out; have R7 : Hid (SRow ps u7 g l7 rest) := h3; (have K7 : Hid (Kept (fun b => b ≠ g) w u7) := keptW_on K6.out h4 fun _ _ h => h); clear h1 h3 h4; go_wp2_with fail
                go_end0
                exact ⟨l7, P7.out, rfl, R7.out, K7.out⟩
              · have d2 : decide (en < hi) = false := decide_eq_false m2
                go_wp2_with fail
                go_end0
                exact ⟨l6, P6.out, rfl, R6.out, K6.out⟩
            · have d2 : decide (mid < en) = false := decide_eq_false k2
              go_wp2_with fail
              go_end0
              exact ⟨l6, P6.out, rfl, R6.out, K6.out⟩
          · have d1 : decide (i < mid) = false := decide_eq_false m1
            by_cases k2 : mid < en
            · by_cases m2 : en < hi
              · go_wp2_with fail
                (refine (HIH.out l mid en hi wr HPw.out (by omega) (by omega) (by have := HEn.out; have := HO.out; have := HMid.out; omega) (by have := HEn.out; have := HO.out; have := HMid.out; omega) HRw.out).mono ?_); rintro _ u7 ⟨l7, h1, rfl, h3, h4⟩; have P7 : Hid (l7.Perm l) := h1.trans HPw.out; have R7 : Hid (SRow ps u7 g l7 rest) := h3; (have K7 : Hid (Kept (fun b => b ≠ g) w u7) := keptW_on HKw.out h4 fun _ _ h => h); clear h1 h3 h4; go_wp2_with fail
                go_end0
                exact ⟨l7, P7.out, rfl, R7.out, K7.out⟩
              · have d2 : decide (en < hi) = false := decide_eq_false m2
                go_wp2_with fail
                go_end0
                exact ⟨l, HPw.out, rfl, HRw.out, HKw.out⟩
            · have d2 : decide (mid < en) = false := decide_eq_false k2
              go_wp2_with fail
              go_end0
              exact ⟨l, HPw.out, rfl, HRw.out, HKw.out⟩
        · have d1 : decide (lo < i) = false := decide_eq_false k1
          by_cases k2 : mid < en
          · by_cases m2 : en < hi
            · go_wp2_with fail
              (refine (HIH.out l mid en hi wr HPw.out (by omega) (by omega) (by have := HEn.out; have := HO.out; have := HMid.out; omega) (by have := HEn.out; have := HO.out; have := HMid.out; omega) HRw.out).mono ?_); rintro _ u7 ⟨l7, h1, rfl, h3, h4⟩; have P7 : Hid (l7.Perm l) := h1.trans HPw.out; have R7 : Hid (SRow ps u7 g l7 rest) := h3; (have K7 : Hid (Kept (fun b => b ≠ g) w u7) := keptW_on HKw.out h4 fun _ _ h => h); clear h1 h3 h4; go_wp2_with fail
              go_end0
              exact ⟨l7, P7.out, rfl, R7.out, K7.out⟩
            · have d2 : decide (en < hi) = false := decide_eq_false m2
              go_wp2_with fail
              go_end0
              exact ⟨l, HPw.out, rfl, HRw.out, HKw.out⟩
          · have d2 : decide (mid < en) = false := decide_eq_false k2
            go_wp2_with fail
            go_end0
            exact ⟨l, HPw.out, rfl, HRw.out, HKw.out⟩
theorem symm_all {ps : List PartM} (g cap : Nat) (rest : List Value) : ∀ fuel, SymS ps g cap rest fuel
  | 0 => fun _ _ _ _ _ _ _ _ _ _ h => absurd h (Nat.not_lt_zero _)
  | fuel + 1 => fun l lo md hi w hl hc h1 h2 h3 h4 hr => by
    have ih := symm_all (ps := ps) g cap rest fuel; by_cases c1 : md - lo = 1
    · exact symm_one g cap rest fuel ih l lo md hi w hl hc h1 h2 h3 h4 hr c1
    by_cases c2 : hi - md = 1
    · exact symm_two g cap rest fuel ih l lo md hi w hl hc h1 h2 h3 h4 hr ⟨c1, c2⟩
    rcases Nat.lt_or_ge ((lo + hi) / 2) md with c3 | c3
    · exact symm_gt g cap rest fuel ih l lo md hi w hl hc h1 h2 h3 h4 hr ⟨c1, c2, c3⟩
    · exact symm_le g cap rest fuel ih l lo md hi w hl hc h1 h2 h3 h4 hr ⟨c1, c2, c3⟩
end Go.Proofs.Ytmahgfgndfcmpag
