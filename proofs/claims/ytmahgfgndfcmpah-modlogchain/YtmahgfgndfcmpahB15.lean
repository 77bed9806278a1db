/- Texts of one proof, one behind the other: ML3, ML7, ML8. -/
import Derived.Test.YtmahgfgndfcmpahB12
import Derived.Test.YtmahgfgndfcmpahB05
import Derived.Test.YtmahgfgndfcmpahB13
import Derived.BigRegion
import Derived.RegionTactic
/- Walks: which worlds see each other (the closures of modlog.framesOf). -/
namespace Go.Proofs.Ytmahgfgndfcmpah
open Go.RowKit Go.Sort

/-- A world as a value. -/
def WV (ps : List PartM) (h : Nat) : Value := .agg #[.int .u64 (h : Nat), .int .u64 (bm ps.length (wnB ps h) : Nat), .int .u64 (bm ps.length (swB ps h) : Nat)]
/-- A closure that tells whether a world sees another: it only makes memory; what it reads lies in the blocks of M. -/
structure AskW (fn : Nat) (cap : Array Value) (S : List PartM → Nat → Nat → Bool) (M : Nat → Prop) (Ok : World → Prop) : Prop where
  up : ∀ {w w' : World}, Ok w → (∀ b, M b → w'.heap[b]? = w.heap[b]?) → Ok w'
  old : ∀ {w : World}, Ok w → ∀ b, M b → b < w.heap.size
  ent : ∀ (v u : Value) (w : World), (callFunc fn (#[v, u] ++ cap)).run Try.prog w = .ok (.enter fn (#[v, u] ++ cap)) w
  call : ∀ (ps : List PartM) (u v : Nat) (w : World), ps.length ≤ 40 → Ok w → Calls Try.prog fn (#[WV ps u, WV ps v] ++ cap) w fun e w' => e = .returned (.bool (S ps u v)) ∧ Below w.heap.size w w'
theorem AskW.below {fn : Nat} {cap : Array Value} {S : List PartM → Nat → Nat → Bool} {M : Nat → Prop} {Ok : World → Prop} (A : AskW fn cap S M Ok) {w w' : World} (h : Ok w) (hb : Below w.heap.size w w') : Ok w' := A.up h fun b hm => hb.block b (A.old h b hm)
set_option maxHeartbeats 1000000 in
theorem next_any (ps : List PartM) (hN : ps.length ≤ 40) (u v : Nat) (w : World) :
    Calls Try.prog 28 #[WV ps u, WV ps v] w fun e w' => e = .returned (.bool (nextB ps u v)) ∧ Below w.heap.size w w' := by
  (have HW : Hid (∀ w, Calls Try.prog 29 #[.int .u64 (bm ps.length (swB ps v) : Nat), .int .u64 (bm ps.length (wnB ps u) : Nat)] w fun e w' => e = .returned (.bool (nextB ps u v)) ∧ w' = w) := fun w => set_within hN _ _ w); unfold WV; generalize nextB ps u v = r at *; generalize bm ps.length (swB ps v) = sv at *; generalize bm ps.length (wnB ps u) = wu at *; generalize bm ps.length (wnB ps v) = wv at *; generalize bm ps.length (swB ps u) = su at *; clear hN
  go_enter Try.func28, Try.ntmps28
  go_wp2_with fail; refine (HW.out _).mono ?_; rintro _ _ ⟨rfl, rfl⟩; go_wp2_with fail; go_ret; exact ⟨rfl, below_more (below_more (Below.refl _ _) _) _⟩
theorem frames1_in (cap : Array Value) (w : World) : (callFunc 28 cap).run Try.prog w = .ok (.enter 28 cap) w := by simp [go_sem]
theorem frames2_in (cap : Array Value) (w : World) : (callFunc 30 cap).run Try.prog w = .ok (.enter 30 cap) w := by simp [go_sem]
theorem frames3_in (cap : Array Value) (w : World) : (callFunc 31 cap).run Try.prog w = .ok (.enter 31 cap) w := by simp [go_sem]
theorem both1_in (cap : Array Value) (w : World) : (callFunc 47 cap).run Try.prog w = .ok (.enter 47 cap) w := by simp [go_sem]
theorem askNext : AskW 28 #[] nextB (fun _ => False) (fun _ => True) where
  up := fun _ _ => trivial
  old := fun _ _ h => h.elim
  ent := fun _ _ w => frames1_in _ w
  call := fun ps u v w hN _ => next_any ps hN u v w
/-- The block that a closure reads. -/
def OkCW (fn : Nat) (cap : Array Value) (cb : Nat) (Ok : World → Prop) (w : World) : Prop := w.heap[cb]? = some (.cells #[.func (.func fn) #[] cap] 45 (0, 0)) ∧ Ok w
theorem blkC {w : World} {b : Nat} {c0 : Value} {T : TypeId} (h : w.heap[b]? = some (.cells #[c0] T (0, 0))) : w.cell? ⟨b, 0, none⟩ = some c0 := blk_cell h 0
section
variable {fn : Nat} {cap : Array Value} {S : List PartM → Nat → Nat → Bool} {M : Nat → Prop} {Ok : World → Prop}
theorem OkCW.up {w w' : World} {cb : Nat} (A : AskW fn cap S M Ok) (h : OkCW fn cap cb Ok w) (hk : ∀ b, (b = cb ∨ M b) → w'.heap[b]? = w.heap[b]?) : OkCW fn cap cb Ok w' := ⟨(hk cb (Or.inl rfl)).trans h.1, A.up h.2 fun b hb => hk b (Or.inr hb)⟩
theorem OkCW.old {w : World} {cb : Nat} (A : AskW fn cap S M Ok) (h : OkCW fn cap cb Ok w) (b : Nat) (hb : b = cb ∨ M b) : b < w.heap.size := by
  rcases hb with rfl | hb
  · exact lt_of_block h.1
  · exact A.old h.2 b hb
set_option maxRecDepth 10000 in
set_option maxHeartbeats 2000000 in
theorem bynd_any (A : AskW fn cap S M Ok) (cb : Nat) (ps : List PartM) (hN : ps.length ≤ 40) (u v : Nat) (w : World) (hok : OkCW fn cap cb Ok w) :
    Calls Try.prog 30 #[WV ps u, WV ps v, .pointer (some ⟨cb, 0, none⟩)] w fun e w' => e = .returned (.bool (S ps u v && subB ps.length (wnB ps v) (wnB ps u))) ∧ Below w.heap.size w w' := by
  (have HW : Hid (∀ w, Calls Try.prog 29 #[.int .u64 (bm ps.length (wnB ps v) : Nat), .int .u64 (bm ps.length (wnB ps u) : Nat)] w fun e w' => e = .returned (.bool (subB ps.length (wnB ps v) (wnB ps u))) ∧ w' = w) := fun w => set_within hN _ _ w); (have HC : Hid (∀ w, Ok w → Calls Try.prog fn (#[WV ps u, WV ps v] ++ cap) w fun e w' => e = .returned (.bool (S ps u v)) ∧ Below w.heap.size w w') := fun w h => A.call ps u v w hN h); (have HU : Hid (∀ w', Below w.heap.size w w' → OkCW fn cap cb Ok w') := fun w' hb => hok.up A fun b hb' => hb.block b (hok.old A b hb')); have hcf := A.ent; unfold WV at HC ⊢; generalize subB ps.length (wnB ps v) (wnB ps u) = r at *; generalize S ps u v = r1 at *; generalize bm ps.length (swB ps v) = sv at *; generalize bm ps.length (wnB ps u) = wu at *; generalize bm ps.length (wnB ps v) = wv at *; generalize bm ps.length (swB ps u) = su at *; clear hN hok A; obtain ⟨W, hW⟩ : ∃ W, (w.alloc (.cells #[.int .u64 (u : Nat), .int .u64 (wu : Nat), .int .u64 (su : Nat)] 59 (0, 0))).alloc (.cells #[.int .u64 (v : Nat), .int .u64 (wv : Nat), .int .u64 (sv : Nat)] 59 (0, 0)) = W := ⟨_, rfl⟩; (have HB : Hid (Below w.heap.size w W) := by rw [← hW]; exact below_more (below_more (Below.refl _ _) _) _); (have hb1 : W.heap[w.heap.size]? = some (.cells #[.int .u64 (u : Nat), .int .u64 (wu : Nat), .int .u64 (su : Nat)] 59 (0, 0)) := by rw [← hW]; exact alloc_keep (blk_new _ _) _); (have hb2 : W.heap[w.heap.size + 1]? = some (.cells #[.int .u64 (v : Nat), .int .u64 (wv : Nat), .int .u64 (sv : Nat)] 59 (0, 0)) := by rw [← hW]; exact blk_secE _ _ _); have HB1 : Hid (W.heap[w.heap.size]? = some (.cells #[.int .u64 (u : Nat), .int .u64 (wu : Nat), .int .u64 (su : Nat)] 59 (0, 0))) := hb1; have HB2 : Hid (W.heap[w.heap.size + 1]? = some (.cells #[.int .u64 (v : Nat), .int .u64 (wv : Nat), .int .u64 (sv : Nat)] 59 (0, 0))) := hb2; obtain ⟨a0, a1, a2, -⟩ := blk3 hb1; obtain ⟨e0, e1, e2, -⟩ := blk3 hb2; have c0 := blkC (HU.out W HB.out).1; clear hb1 hb2
  go_enter Try.func30, Try.ntmps30
  go_wp2_with fail; refine (HC.out W (HU.out W HB.out).2).mono ?_; rintro _ w1 ⟨rfl, hb1⟩; have HX : Hid (Below w.heap.size w w1) := below_join HB.out hb1; obtain ⟨f0, f1, f2, -⟩ := blk3 (below_keep hb1 HB1.out); obtain ⟨g0, g1, g2, -⟩ := blk3 (below_keep hb1 HB2.out); clear hb1 a0 a1 a2 e0 e1 e2 c0 hW hcf
  cases r1
  · go_wp2_with fail
    go_ret; exact ⟨rfl, HX.out⟩
  · go_wp2_with fail
    refine (HW.out _).mono ?_; rintro _ _ ⟨rfl, rfl⟩; go_wp2_with fail; go_ret; exact ⟨rfl, HX.out⟩
set_option maxRecDepth 10000 in
set_option maxHeartbeats 2000000 in
theorem onw_any (A : AskW fn cap S M Ok) (cb : Nat) (ps : List PartM) (hN : ps.length ≤ 40) (u v : Nat) (w : World) (hok : OkCW fn cap cb Ok w) :
    Calls Try.prog 31 #[WV ps u, WV ps v, .pointer (some ⟨cb, 0, none⟩)] w fun e w' => e = .returned (.bool (S ps u v && !decide (bm ps.length (wnB ps u) = bm ps.length (wnB ps v)))) ∧ Below w.heap.size w w' := by
  (have HC : Hid (∀ w, Ok w → Calls Try.prog fn (#[WV ps u, WV ps v] ++ cap) w fun e w' => e = .returned (.bool (S ps u v)) ∧ Below w.heap.size w w') := fun w h => A.call ps u v w hN h); (have HU : Hid (∀ w', Below w.heap.size w w' → OkCW fn cap cb Ok w') := fun w' hb => hok.up A fun b hb' => hb.block b (hok.old A b hb')); have hcf := A.ent; unfold WV at HC ⊢; generalize S ps u v = r1 at *; generalize bm ps.length (swB ps v) = sv at *; generalize bm ps.length (wnB ps u) = wu at *; generalize bm ps.length (wnB ps v) = wv at *; generalize bm ps.length (swB ps u) = su at *; clear hN hok A; obtain ⟨W, hW⟩ : ∃ W, (w.alloc (.cells #[.int .u64 (u : Nat), .int .u64 (wu : Nat), .int .u64 (su : Nat)] 59 (0, 0))).alloc (.cells #[.int .u64 (v : Nat), .int .u64 (wv : Nat), .int .u64 (sv : Nat)] 59 (0, 0)) = W := ⟨_, rfl⟩; (have HB : Hid (Below w.heap.size w W) := by rw [← hW]; exact below_more (below_more (Below.refl _ _) _) _); (have hb1 : W.heap[w.heap.size]? = some (.cells #[.int .u64 (u : Nat), .int .u64 (wu : Nat), .int .u64 (su : Nat)] 59 (0, 0)) := by rw [← hW]; exact alloc_keep (blk_new _ _) _); (have hb2 : W.heap[w.heap.size + 1]? = some (.cells #[.int .u64 (v : Nat), .int .u64 (wv : Nat), .int .u64 (sv : Nat)] 59 (0, 0)) := by rw [← hW]; exact blk_secE _ _ _); have HB1 : Hid (W.heap[w.heap.size]? = some (.cells #[.int .u64 (u : Nat), .int .u64 (wu : Nat), .int .u64 (su : Nat)] 59 (0, 0))) := hb1; have HB2 : Hid (W.heap[w.heap.size + 1]? = some (.cells #[.int .u64 (v : Nat), .int .u64 (wv : Nat), .int .u64 (sv : Nat)] 59 (0, 0))) := hb2; obtain ⟨a0, a1, a2, -⟩ := blk3 hb1; obtain ⟨e0, e1, e2, -⟩ := blk3 hb2; have c0 := blkC (HU.out W HB.out).1; clear hb1 hb2
  go_enter Try.func31, Try.ntmps31
  go_wp2_with fail; refine (HC.out W (HU.out W HB.out).2).mono ?_; rintro _ w1 ⟨rfl, hb1⟩; have HX : Hid (Below w.heap.size w w1) := below_join HB.out hb1; obtain ⟨f0, f1, f2, -⟩ := blk3 (below_keep hb1 HB1.out); obtain ⟨g0, g1, g2, -⟩ := blk3 (below_keep hb1 HB2.out); clear hb1 a0 a1 a2 e0 e1 e2 c0 hW hcf
  cases r1
  · go_wp2_with fail
    go_ret; exact ⟨rfl, HX.out⟩
  · by_cases hd : wu = wv
    · subst hd
      go_wp2_with fail; go_ret; (exact ⟨by simp, HX.out⟩)
    · have hd2 : ((wu : Int) != (wv : Int)) = true := by simpa using fun e => hd (by exact_mod_cast e)
      go_wp2_with fail; go_ret; (exact ⟨by simp [hd], HX.out⟩)
set_option maxRecDepth 10000 in
set_option maxHeartbeats 2000000 in
theorem bothW_any (A : AskW fn cap S M Ok) (cb : Nat) (ps : List PartM) (hN : ps.length ≤ 40) (u v : Nat) (w : World) (hok : OkCW fn cap cb Ok w) :
    Calls Try.prog 47 #[WV ps u, WV ps v, .pointer (some ⟨cb, 0, none⟩)] w fun e w' => e = .returned (.bool (S ps u v && S ps v u)) ∧ Below w.heap.size w w' := by
  (have HC : Hid (∀ w, Ok w → Calls Try.prog fn (#[WV ps u, WV ps v] ++ cap) w fun e w' => e = .returned (.bool (S ps u v)) ∧ Below w.heap.size w w') := fun w h => A.call ps u v w hN h); (have HD : Hid (∀ w, Ok w → Calls Try.prog fn (#[WV ps v, WV ps u] ++ cap) w fun e w' => e = .returned (.bool (S ps v u)) ∧ Below w.heap.size w w') := fun w h => A.call ps v u w hN h); (have HU : Hid (∀ w', Below w.heap.size w w' → OkCW fn cap cb Ok w') := fun w' hb => hok.up A fun b hb' => hb.block b (hok.old A b hb')); have hcf := A.ent; unfold WV at HC HD ⊢; generalize S ps u v = r1 at *; generalize S ps v u = r2 at *; generalize bm ps.length (swB ps v) = sv at *; generalize bm ps.length (wnB ps u) = wu at *; generalize bm ps.length (wnB ps v) = wv at *; generalize bm ps.length (swB ps u) = su at *; clear hN hok A; obtain ⟨W, hW⟩ : ∃ W, (w.alloc (.cells #[.int .u64 (u : Nat), .int .u64 (wu : Nat), .int .u64 (su : Nat)] 59 (0, 0))).alloc (.cells #[.int .u64 (v : Nat), .int .u64 (wv : Nat), .int .u64 (sv : Nat)] 59 (0, 0)) = W := ⟨_, rfl⟩; (have HB : Hid (Below w.heap.size w W) := by rw [← hW]; exact below_more (below_more (Below.refl _ _) _) _); (have hb1 : W.heap[w.heap.size]? = some (.cells #[.int .u64 (u : Nat), .int .u64 (wu : Nat), .int .u64 (su : Nat)] 59 (0, 0)) := by rw [← hW]; exact alloc_keep (blk_new _ _) _); (have hb2 : W.heap[w.heap.size + 1]? = some (.cells #[.int .u64 (v : Nat), .int .u64 (wv : Nat), .int .u64 (sv : Nat)] 59 (0, 0)) := by rw [← hW]; exact blk_secE _ _ _); have HB1 : Hid (W.heap[w.heap.size]? = some (.cells #[.int .u64 (u : Nat), .int .u64 (wu : Nat), .int .u64 (su : Nat)] 59 (0, 0))) := hb1; have HB2 : Hid (W.heap[w.heap.size + 1]? = some (.cells #[.int .u64 (v : Nat), .int .u64 (wv : Nat), .int .u64 (sv : Nat)] 59 (0, 0))) := hb2; obtain ⟨a0, a1, a2, -⟩ := blk3 hb1; obtain ⟨e0, e1, e2, -⟩ := blk3 hb2; have c0 := blkC (HU.out W HB.out).1; clear hb1 hb2
  go_enter Try.func47, Try.ntmps47
  go_wp2_with fail; refine (HC.out W (HU.out W HB.out).2).mono ?_; rintro _ w1 ⟨rfl, hb1⟩; have HX : Hid (Below w.heap.size w w1) := below_join HB.out hb1; obtain ⟨f0, f1, f2, -⟩ := blk3 (below_keep hb1 HB1.out); obtain ⟨g0, g1, g2, -⟩ := blk3 (below_keep hb1 HB2.out); have c1 := blkC (HU.out w1 HX.out).1; clear hb1 a0 a1 a2 e0 e1 e2 c0 hW
  cases r1
  · go_wp2_with fail
    go_ret; exact ⟨rfl, HX.out⟩
  · go_wp2_with fail
    refine (HD.out _ (HU.out w1 HX.out).2).mono ?_; rintro _ w2 ⟨rfl, hb2⟩; go_wp2_with fail; go_ret; exact ⟨rfl, below_join HX.out hb2⟩
theorem askBynd (A : AskW fn cap S M Ok) (cb : Nat) : AskW 30 #[.pointer (some ⟨cb, 0, none⟩)] (fun ps u v => S ps u v && subB ps.length (wnB ps v) (wnB ps u)) (fun b => b = cb ∨ M b) (OkCW fn cap cb Ok) where
  up := fun h hk => h.up A hk
  old := fun h b hb => h.old A b hb
  ent := fun _ _ w => frames2_in _ w
  call := fun ps u v w hN h => bynd_any A cb ps hN u v w h
theorem askOnw (A : AskW fn cap S M Ok) (cb : Nat) : AskW 31 #[.pointer (some ⟨cb, 0, none⟩)] (fun ps u v => S ps u v && !decide (bm ps.length (wnB ps u) = bm ps.length (wnB ps v))) (fun b => b = cb ∨ M b) (OkCW fn cap cb Ok) where
  up := fun h hk => h.up A hk
  old := fun h b hb => h.old A b hb
  ent := fun _ _ w => frames3_in _ w
  call := fun ps u v w hN h => onw_any A cb ps hN u v w h
theorem askBoth (A : AskW fn cap S M Ok) (cb : Nat) : AskW 47 #[.pointer (some ⟨cb, 0, none⟩)] (fun ps u v => S ps u v && S ps v u) (fun b => b = cb ∨ M b) (OkCW fn cap cb Ok) where
  up := fun h hk => h.up A hk
  old := fun h b hb => h.old A b hb
  ent := fun _ _ w => both1_in _ w
  call := fun ps u v w hN h => bothW_any A cb ps hN u v w h
end
end Go.Proofs.Ytmahgfgndfcmpah
/- Walks: how worlds are compared (the closure of modlog.worldsOf). -/
namespace Go.Proofs.Ytmahgfgndfcmpah
open Go.RowKit Go.Sort

set_option maxRecDepth 10000 in
set_option maxHeartbeats 2000000 in
theorem ones_any (x : Int) (w : World) : Calls Try.prog 65 #[.int .u64 x] w fun e w' => (∃ c, e = .returned (.int .i64 c)) ∧ w' = w := by
  go_enter Try.func65, Try.ntmps65
  go_wp2_with fail; go_ret; exact ⟨⟨_, rfl⟩, rfl⟩
set_option maxHeartbeats 1000000 in
theorem wsize_any (x : Int) (w : World) : Calls Try.prog 54 #[.int .u64 x] w fun e w' => (∃ c, e = .returned (.int .i64 c)) ∧ w' = w := by
  (have HO : Hid (∀ w, Calls Try.prog 65 #[.int .u64 x] w _) := fun w => ones_any x w)
  go_enter Try.func54, Try.ntmps54
  go_wp2_with fail; refine (HO.out _).mono ?_; rintro _ _ ⟨⟨c, rfl⟩, rfl⟩; go_wp2_with fail; go_ret; exact ⟨⟨_, rfl⟩, rfl⟩
theorem nan_any (x : Int) (w : World) : Calls Try.prog 64 #[.int .i64 x] w fun e w' => e = .returned (.bool false) ∧ w' = w := by
  go_enter Try.func64, Try.ntmps64
  go_wp2_with fail; go_ret; exact ⟨rfl, rfl⟩
set_option maxHeartbeats 2000000 in
theorem cmpInt_any (x y : Int) (w : World) : Calls Try.prog 53 #[.int .i64 x, .int .i64 y] w fun e w' => (∃ c, e = .returned (.int .i64 c)) ∧ w' = w := by
  (have HN : Hid (∀ x w, Calls Try.prog 64 #[.int .i64 x] w _) := fun x w => nan_any x w)
  go_enter Try.func53, Try.ntmps53
  go_wp2_with fail; refine (HN.out _ _).mono ?_; rintro _ _ ⟨rfl, rfl⟩; go_wp2_with fail; refine (HN.out _ _).mono ?_; rintro _ _ ⟨rfl, rfl⟩; by_cases h1 : x < y
  · go_wp2_with fail
    go_ret; exact ⟨⟨_, rfl⟩, rfl⟩
  · have h1d : decide (x < y) = false := decide_eq_false h1
    by_cases h2 : y < x
    · go_wp2_with fail
      go_ret; exact ⟨⟨_, rfl⟩, rfl⟩
    · have h2d : decide (y < x) = false := decide_eq_false h2
      go_wp2_with fail; go_ret; exact ⟨⟨_, rfl⟩, rfl⟩
-- closure
def kInt : Value → World → Prop := fun v _ => ∃ c, v = .int .i64 c
theorem kInt_stays : Stays kInt := fun _ _ _ h _ => h
set_option maxRecDepth 10000 in
set_option maxHeartbeats 2000000 in
theorem cmpW_any (ps : List PartM) (u v : Nat) (w : World) : Calls Try.prog 52 #[WV ps u, WV ps v] w fun e w' => (∃ c, e = .returned (.int .i64 c)) ∧ Below w.heap.size w w' := by
  unfold WV; generalize bm ps.length (wnB ps u) = uw; generalize bm ps.length (swB ps u) = us; generalize bm ps.length (wnB ps v) = vw; generalize bm ps.length (swB ps v) = vs; obtain ⟨W, hW⟩ : ∃ W, W = (w.alloc (.cells #[.int .u64 (u : Nat), .int .u64 (uw : Nat), .int .u64 (us : Nat)] 59 (0, 0))).alloc (.cells #[.int .u64 (v : Nat), .int .u64 (vw : Nat), .int .u64 (vs : Nat)] 59 (0, 0)) := ⟨_, rfl⟩; (have HB0 : Hid (Below w.heap.size w W) := by rw [hW]; exact below_more (below_more (Below.refl _ w) _) _); (have HX1 : Hid (W.heap[w.heap.size]? = some (.cells #[.int .u64 (u : Nat), .int .u64 (uw : Nat), .int .u64 (us : Nat)] 59 (0, 0))) := by rw [hW]; exact alloc_keep (blk_new _ _) _); (have HX2 : Hid (W.heap[w.heap.size + 1]? = some (.cells #[.int .u64 (v : Nat), .int .u64 (vw : Nat), .int .u64 (vs : Nat)] 59 (0, 0))) := by rw [hW]; exact blk_secE _ _ _)
  go_enter Try.func52, Try.ntmps52
  go_wp2_with fail; rw [← hW]; clear hW; (refine wp_region_free (by kernel_rfl) [fun v _ => v = (.pointer (some ⟨w.heap.size, 1, none⟩)), fun v _ => v = (.int .u64 (uw : Nat)), kInt, fun v _ => v = (.pointer (some ⟨w.heap.size + 1, 1, none⟩)), fun v _ => v = (.int .u64 (vw : Nat)), kInt, kInt, kInt] ?_ (by kernel_rfl) (by kernel_rfl) 12 rfl (by kernel_rfl) ?_ ?_)
  · intro p hp
    simp only [List.mem_cons, List.not_mem_nil, or_false] at hp
    rcases hp with rfl | rfl | rfl | rfl | rfl | rfl | rfl | rfl
    · exact fun _ _ _ h _ => h
    · exact fun _ _ _ h _ => h
    · exact kInt_stays
    · exact fun _ _ _ h _ => h
    · exact fun _ _ _ h _ => h
    · exact kInt_stays
    · exact kInt_stays
    · exact kInt_stays
  · refine ⟨?_, ?_, ?_, ?_, ?_, ?_, ?_, ?_, trivial⟩
    · intro a wx hB hold hdep K hK
      have t2 : a.tmps[2]? = some (.pointer (some ⟨w.heap.size, 0, none⟩)) := hold.2.2 2 rfl; clear hold hdep; go_simp; exact hK.out _ _ rfl (Below.refl _ _)
    · intro a wx hB hold hdep K hK
      obtain ⟨v5, t5, p5⟩ := hdep 0 rfl _ 5 rfl rfl; have e5 : v5 = (.pointer (some ⟨w.heap.size, 1, none⟩)) := p5; subst e5; obtain ⟨q0, q1, q2, -⟩ := blk3 (below_keep hB HX1.out); clear hold hdep; go_simp; exact hK.out _ _ rfl (Below.refl _ _)
    · intro a wx hB hold hdep K hK
      obtain ⟨v6, t6, p6⟩ := hdep 1 rfl _ 6 rfl rfl; have e6 : v6 = (.int .u64 (uw : Nat)) := p6; subst e6; have HW : Hid (Calls Try.prog 54 #[.int .u64 (uw : Nat)] wx _) := wsize_any _ wx; clear hold hdep; go_simp; refine HW.out.mono ?_; rintro _ w9 ⟨⟨c9, rfl⟩, rfl⟩; go_simp; exact hK.out _ _ ⟨_, rfl⟩ (Below.refl _ _)
    · intro a wx hB hold hdep K hK
      have t3 : a.tmps[3]? = some (.pointer (some ⟨w.heap.size + 1, 0, none⟩)) := hold.2.2 3 rfl; clear hold hdep; go_simp; exact hK.out _ _ rfl (Below.refl _ _)
    · intro a wx hB hold hdep K hK
      obtain ⟨v8, t8, p8⟩ := hdep 3 rfl _ 8 rfl rfl; have e8 : v8 = (.pointer (some ⟨w.heap.size + 1, 1, none⟩)) := p8; subst e8; obtain ⟨q0, q1, q2, -⟩ := blk3 (below_keep hB HX2.out); clear hold hdep; go_simp; exact hK.out _ _ rfl (Below.refl _ _)
    · intro a wx hB hold hdep K hK
      obtain ⟨v9, t9, p9⟩ := hdep 4 rfl _ 9 rfl rfl; have e9 : v9 = (.int .u64 (vw : Nat)) := p9; subst e9; have HW : Hid (Calls Try.prog 54 #[.int .u64 (vw : Nat)] wx _) := wsize_any _ wx; clear hold hdep; go_simp; refine HW.out.mono ?_; rintro _ w9 ⟨⟨c9, rfl⟩, rfl⟩; go_simp; exact hK.out _ _ ⟨_, rfl⟩ (Below.refl _ _)
    · intro a wx hB hold hdep K hK
      obtain ⟨v7, t7, p7⟩ := hdep 2 rfl _ 7 rfl rfl; have P7 : Hid ((kInt) v7 wx) := p7; clear p7; obtain ⟨v10, t10, p10⟩ := hdep 5 rfl _ 10 rfl rfl; have P10 : Hid ((kInt) v10 wx) := p10; clear p10; obtain ⟨c7, rfl⟩ := P7.out; obtain ⟨c10, rfl⟩ := P10.out; clear P7 P10; have HW : Hid (Calls Try.prog 53 #[.int .i64 c7, .int .i64 c10] wx _) := cmpInt_any _ _ wx; clear hold hdep; go_simp; refine HW.out.mono ?_; rintro _ w9 ⟨⟨c9, rfl⟩, rfl⟩; go_simp; exact hK.out _ _ ⟨_, rfl⟩ (Below.refl _ _)
    · intro a wx hB hold hdep K hK
      obtain ⟨v11, t11, p11⟩ := hdep 6 rfl _ 11 rfl rfl; have P11 : Hid ((kInt) v11 wx) := p11; clear p11; clear hold hdep; go_simp; exact hK.out _ _ P11.out (Below.refl _ _)
  · intro a wx hB hold hgot
    obtain ⟨vZ, tvZ, pvZ⟩ := hgot 7 _ 4 rfl rfl; obtain ⟨c, rfl⟩ := pvZ; have HBx : Hid (Below W.heap.size W wx) := hB; obtain ⟨tm, df⟩ := a; (obtain ⟨ys, hys, htm, rfl⟩ := frame_mid2 4 8 (by kernel_rfl) (Nat.le_of_ble_eq_true rfl) hold); obtain ⟨x4, x5, x6, x7, x8, x9, x10, x11, rfl⟩ := rowE8 ys hys; simp only [List.take_succ_cons, List.take_zero, List.drop_succ_cons, List.drop_zero, List.cons_append, List.nil_append] at htm; subst htm; obtain rfl : x4 = _ := someInjM tvZ; clear hys hold hgot tvZ hB; go_wp2_with fail; go_ret; exact ⟨⟨_, rfl⟩, below_join HB0.out HBx.out⟩
theorem worlds1_in (cap : Array Value) (w : World) : (callFunc 52 cap).run Try.prog w = .ok (.enter 52 cap) w := by simp [go_sem]
end Go.Proofs.Ytmahgfgndfcmpah
/- Rows of worlds in memory; two of them change places (slices.swapRangeCmpFunc). -/
namespace Go.Proofs.Ytmahgfgndfcmpah
open Go.RowKit Go.Sort

/-- The cells of worlds. -/
def encW (ps : List PartM) : List Nat → List Value
  | [] => []
  | h :: l => .int .u64 (h : Nat) :: .int .u64 (bm ps.length (wnB ps h) : Nat) :: .int .u64 (bm ps.length (swB ps h) : Nat) :: encW ps l
section
variable {ps : List PartM}
theorem encW_len : ∀ l, (encW ps l).length = l.length * 3
  | [] => rfl
  | h :: l => by rw [encW, List.length_cons, List.length_cons, List.length_cons, encW_len l, List.length_cons]; omega
theorem encW_app : ∀ l l', encW ps (l ++ l') = encW ps l ++ encW ps l'
  | [], _ => rfl
  | h :: l, l' => by rw [List.cons_append, encW, encW_app l l', encW]; rfl
theorem encW_one : ∀ l, ∀ u ∈ encW ps l, u.oneCell' = true
  | [], _, h => by cases h
  | p :: l, u, h => by
    rw [encW] at h
    rcases List.mem_cons.1 h with rfl | h
    · rfl
    rcases List.mem_cons.1 h with rfl | h
    · rfl
    rcases List.mem_cons.1 h with rfl | h
    · rfl
    exact encW_one l u h
theorem encW_at : ∀ (l : List Nat) (j h : Nat), l[j]? = some h → (encW ps l)[j * 3]? = some (.int .u64 (h : Nat)) ∧ (encW ps l)[j * 3 + 1]? = some (.int .u64 (bm ps.length (wnB ps h) : Nat)) ∧ (encW ps l)[j * 3 + 2]? = some (.int .u64 (bm ps.length (swB ps h) : Nat))
  | [], j, h, e => by simp at e
  | p :: l, 0, h, e => by
    simp at e; subst e
    exact ⟨rfl, rfl, rfl⟩
  | p :: l, j + 1, h, e => by
    (have h9 := encW_at l j h (by simpa using e)); (rw [encW, show (j + 1) * 3 = j * 3 + 1 + 1 + 1 by omega]); exact h9
theorem encW_set : ∀ (l : List Nat) (j h : Nat), j < l.length → (((encW ps l).set (j * 3) (.int .u64 (h : Nat))).set (j * 3 + 1) (.int .u64 (bm ps.length (wnB ps h) : Nat))).set (j * 3 + 2) (.int .u64 (bm ps.length (swB ps h) : Nat)) = encW ps (l.set j h)
  | [], j, h, e => by simp at e
  | p :: l, 0, h, _ => by rfl
  | p :: l, j + 1, h, e => by
    (have h9 := encW_set l j h (by simpa using e)); (rw [List.set_cons_succ, encW, encW, show (j + 1) * 3 = j * 3 + 1 + 1 + 1 by omega]); simp only [List.set_cons_succ]; rw [h9]
end
/-- A row of worlds in a block, and what lies behind it. -/
def SRow (ps : List PartM) (w : World) (g : Nat) (l : List Nat) (rest : List Value) : Prop := w.heap[g]? = some (.cells (encW ps l ++ rest).toArray 59 (0, 0))
theorem SRow.cells {ps : List PartM} {w : World} {g : Nat} {l : List Nat} {rest : List Value} (h : SRow ps w g l rest) {j x : Nat} (hj : l[j]? = some x) : w.cell? ⟨g, j * 3, none⟩ = some (.int .u64 (x : Nat)) ∧ w.cell? ⟨g, j * 3 + 1, none⟩ = some (.int .u64 (bm ps.length (wnB ps x) : Nat)) ∧ w.cell? ⟨g, j * 3 + 2, none⟩ = some (.int .u64 (bm ps.length (swB ps x) : Nat)) ∧ w.frozen? ⟨g, j * 3, none⟩ = false ∧ w.frozen? ⟨g, j * 3 + 1, none⟩ = false ∧ w.frozen? ⟨g, j * 3 + 2, none⟩ = false := by
  obtain ⟨a, b, c⟩ := encW_at (ps := ps) l j x hj; have hl := (List.getElem?_eq_some_iff.1 hj).1; have hn := encW_len (ps := ps) l; refine ⟨(blk_cell h _).trans ?_, (blk_cell h _).trans ?_, (blk_cell h _).trans ?_, blk_fz h _, blk_fz h _, blk_fz h _⟩
  · rw [List.getElem?_toArray, List.getElem?_append_left (by omega)]; exact a
  · rw [List.getElem?_toArray, List.getElem?_append_left (by omega)]; exact b
  · rw [List.getElem?_toArray, List.getElem?_append_left (by omega)]; exact c
theorem blk_setW {w : World} {b i : Nat} {cs : Array Value} {T : TypeId} (h : w.heap[b]? = some (.cells cs T (0, 0))) (v : Value) : (w.setCell ⟨b, i, none⟩ v).heap[b]? = some (.cells (cs.setIfInBounds i v) T (0, 0)) := by
  simp [World.setCell, Array.getElem?_modify, h]
theorem SRow.put {ps : List PartM} {w : World} {g : Nat} {l : List Nat} {rest : List Value} (h : SRow ps w g l rest) {j : Nat} (hj : j < l.length) (x : Nat) : SRow ps (((w.setCell ⟨g, j * 3, none⟩ (.int .u64 (x : Nat))).setCell ⟨g, j * 3 + 1, none⟩ (.int .u64 (bm ps.length (wnB ps x) : Nat))).setCell ⟨g, j * 3 + 2, none⟩ (.int .u64 (bm ps.length (swB ps x) : Nat))) g (l.set j x) rest := by
  have hn := encW_len (ps := ps) l; unfold SRow; rw [blk_setW (blk_setW (blk_setW h _) _) _]
  congr 2
  apply Array.ext'; simp only [Array.toList_setIfInBounds]; (rw [List.set_append_left _ _ (by omega), List.set_append_left _ _ (by simp; omega), List.set_append_left _ _ (by simp; omega), encW_set l j x hj])
theorem swap_perm {l : List Nat} {i j x y : Nat} (hi : l[i]? = some x) (hj : l[j]? = some y) : ((l.set i y).set j x).Perm l := by
  have hil := (List.getElem?_eq_some_iff.1 hi).1; have hjl := (List.getElem?_eq_some_iff.1 hj).1; rw [List.perm_iff_count]; intro a; by_cases e : i = j
  · subst e
    rw [hi] at hj; have : x = y := Option.some.inj hj; subst this; rw [List.set_set]
    have : l.set i x = l := by
      apply List.ext_getElem?; intro n; by_cases h : i = n
      · subst h; rw [List.getElem?_set_self hil, hi]
      · rw [List.getElem?_set_ne h]
    rw [this]
  · have h1 : (l.set i y)[j]? = some y := by rw [List.getElem?_set_ne e]; exact hj
    have e1 : l[i] = x := (List.getElem?_eq_some_iff.1 hi).2; (have e2 : (l.set i y)[j]'(by simpa using hjl) = y := (List.getElem?_eq_some_iff.1 h1).2); (rw [List.count_set (by simpa using hjl), List.count_set hil, e1, e2])
    have hx : (x == a) = true → 0 < l.count a := fun h => by
      (have : x = a := by simpa using h); rw [← this]; exact List.count_pos_iff.2 (List.mem_of_getElem? hi)
    (by_cases hxa : (x == a) = true <;> by_cases hya : (y == a) = true <;> simp [hxa, hya] <;> try (have := hx hxa; omega))
theorem Kept.set {g i : Nat} {w w' : World} (h : Kept (fun b => b ≠ g) w w') (v : Value) : Kept (fun b => b ≠ g) w (w'.setCell ⟨g, i, none⟩ v) := by
  (refine ⟨h.os, h.tape, h.output, ?_, fun k hk hne => ?_⟩)
  · simp only [World.setCell, Array.size_modify]; exact h.size
  · rw [farM hne]; exact h.block k hk hne
theorem Kept.drewK {ok : Nat → Prop} {w w' : World} (h : Kept ok w w') : Kept ok w w'.drew := ⟨h.os, h.tape, h.output, h.size, h.block⟩
/-- What a sort leaves: the row in another order, all else as it was. -/
def SortP (ps : List PartM) (g : Nat) (l : List Nat) (rest : List Value) (w : World) (e : Ending) (w' : World) : Prop := ∃ l', l'.Perm l ∧ e = .returned (.tuple #[]) ∧ SRow ps w' g l' rest ∧ Kept (fun b => b ≠ g) w w'
set_option maxRecDepth 10000 in
set_option maxHeartbeats 4000000 in
theorem swapRange_any {ps : List PartM} (g cap : Nat) (f : Value) (rest : List Value) (l : List Nat) (hl : l.length ≤ 100000) (hc : l.length ≤ cap) (a b n : Nat) (ha : a + n ≤ l.length) (hb : b + n ≤ l.length) (w : World) (hr : SRow ps w g l rest) :
    Calls Try.prog 86 #[.slice (some ⟨g, 0, none⟩) l.length cap, .int .i64 (a : Nat), .int .i64 (b : Nat), .int .i64 (n : Nat), f] w fun e w' => SortP ps g l rest w e w' := by
  have HR : Hid (SRow ps w g l rest) := hr; (have hlI : (l.length : Int) ≤ 100000 := by omega); (have hcI : (l.length : Int) ≤ (cap : Int) := by omega); (have haI : (a : Int) + (n : Int) ≤ (l.length : Int) := by omega); (have hbI : (b : Int) + (n : Int) ≤ (l.length : Int) := by omega); clear hr
  go_enter Try.func86, Try.ntmps86
  go_wp2_with fail
  go_loopg [10] n (fun gg c wr => ∃ i l', i ≤ n ∧ gg = n - i ∧ c = .int .i64 (i : Nat) ∧ Hid (l'.Perm l) ∧ Hid (SRow ps wr g l' rest) ∧ Hid (Kept (fun b => b ≠ g) w wr))
  case atStart => exact ⟨0, l, by omega, by omega, rfl, List.Perm.refl _, HR, Kept.refl _ _⟩
  case round =>
    obtain ⟨i, l', hi, hg, rfl, HP, HR', HK⟩ := hrel; have HGk : Hid (gk = n - i) := hg; clear hg; by_cases hlt : i < n
    · have hltI : (i : Int) < (n : Int) := by omega
      have HI : Hid (i < n) := hlt; have hll := HP.out.length_eq; (obtain ⟨x, hx⟩ : ∃ x, l'[a + i]? = some x := ⟨_, List.getElem?_eq_getElem (by omega)⟩); (obtain ⟨y, hy⟩ : ∃ y, l'[b + i]? = some y := ⟨_, List.getElem?_eq_getElem (by omega)⟩); obtain ⟨x0, x1, x2, x3, x4, x5⟩ := HR'.out.cells hx; obtain ⟨y0, y1, y2, y3, y4, y5⟩ := HR'.out.cells hy; clear hlt hi hll; (have hp := HR'.out.put (j := a + i) (by have := HP.out.length_eq; omega) y); (obtain ⟨z, hz⟩ : ∃ z, (l'.set (a + i) y)[b + i]? = some z := ⟨_, List.getElem?_eq_getElem (by have := HP.out.length_eq; simp; omega)⟩); obtain ⟨z0, z1, z2, z3, z4, z5⟩ := hp.cells hz; (have hq := hp.put (j := b + i) (by have := HP.out.length_eq; simp; omega) x); obtain ⟨V, hV⟩ : ∃ V, V = ((((((wr).setCell ⟨g, (a + i) * 3, none⟩ (.int .u64 (y : Nat))).setCell ⟨g, (a + i) * 3 + 1, none⟩ (.int .u64 (bm ps.length (wnB ps y) : Nat))).setCell ⟨g, (a + i) * 3 + 2, none⟩ (.int .u64 (bm ps.length (swB ps y) : Nat))).setCell ⟨g, (b + i) * 3, none⟩ (.int .u64 (x : Nat))).setCell ⟨g, (b + i) * 3 + 1, none⟩ (.int .u64 (bm ps.length (wnB ps x) : Nat))).setCell ⟨g, (b + i) * 3 + 2, none⟩ (.int .u64 (bm ps.length (swB ps x) : Nat)) := ⟨_, rfl⟩; (have HQ : Hid (SRow ps V g ((l'.set (a + i) y).set (b + i) x) rest) := by rw [hV]; exact hq); have HS : Hid (((l'.set (a + i) y).set (b + i) x).Perm l) := (swap_perm hx hy).trans HP.out; (have HK2 : Hid (Kept (fun b => b ≠ g) w V) := by rw [hV]; exact (((((HK.out.set _).set _).set _).set _).set _).set _); clear hx hy hp hz hq; go_wp2_with fail
      go_region
      all_goals
        rw [← hV]; clear hV; clear x0 x1 x2 x3 x4 x5 y0 y1 y2 y3 y4 y5 z0 z1 z2 z3 z4 z5; go_wp2_with fail
        go_roundg (n - (i + 1))
        case measure => have := HGk.out; have := HI.out; omega
        case rel => exact ⟨i + 1, _, HI.out, rfl, by go_num, HS, HQ, HK2.out.drewK⟩
    · have hii : i = n := by omega
      subst hii; (have hge : ¬ (i : Int) < (i : Int) := by omega); clear hlt hi; go_wp2_with fail
      go_end0
      exact ⟨l', HP.out, rfl, HR'.out, HK.out⟩
end Go.Proofs.Ytmahgfgndfcmpah
