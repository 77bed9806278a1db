/- Texts of one proof, one behind the other: ML4. -/
import Derived.Test.YtmahgfgndfcmpagB12
import Derived.Test.YtmahgfgndfcmpagB10
import Derived.RegionTactic
/- Walks: modlog.framesOf. -/
namespace Go.Proofs.Ytmahgfgndfcmpag
open Go.RowKit Go.Sort

/-- What framesOf answers. -/
def FrA (k : Nat) (w : World) (e : Ending) (w' : World) : Prop := ∃ fn cap M Ok, e = .returned (.tuple #[.agg #[.func (.func fn) #[] cap, .bool (itsB k), .bool (someB k)], .bool true]) ∧ AskW fn cap (fun ps => seesB ps k) M Ok ∧ Ok w' ∧ (∀ b, M b → w.heap.size ≤ b)
theorem AskW.congr {fn : Nat} {cap : Array Value} {S S' : List PartM → Nat → Nat → Bool} {M : Nat → Prop} {Ok : World → Prop} (A : AskW fn cap S M Ok) (h : ∀ ps u v, S ps u v = S' ps u v) : AskW fn cap S' M Ok := by
  (have : S = S' := by funext ps u v; exact h ps u v); rw [← this]; exact A
theorem bothWays_any (fn : Fn) (bd cp : Array Value) (w : World) : Calls Try.prog 87 #[.func fn bd cp] w fun e w' => e = .returned (.func (.func 106) #[] #[.pointer (some ⟨w.heap.size, 0, none⟩)]) ∧ w' = w.alloc (.cells #[.func fn bd cp] 92 (0, 0)) := by
  go_enter Try.func87, Try.ntmps87
  go_wp2_with fail; go_ret; exact ⟨rfl, rfl⟩
set_option maxRecDepth 10000 in
set_option maxHeartbeats 2000000 in
theorem frames_1 (w : World) : Calls Try.prog 49 #[.int .i64 1] w fun e w' => FrA 1 w e w' ∧ Below w.heap.size w w' := by
  go_enter Try.func49, Try.ntmps49
  go_wp2_with fail; obtain ⟨h0, h1, h2⟩ := blk_threeM w (.cells #[.func (.func 84) #[] #[], .bool false, .bool false] 94 (0, 0)) (.cells #[.func (.func 84) #[] #[]] 92 (0, 0)) (.cells #[.func (.func 85) #[] #[.pointer (some ⟨w.heap.size + 1, 0, none⟩)]] 92 (0, 0)); have hb := below_more (below_more (below_more (Below.refl w.heap.size w) (.cells #[.func (.func 84) #[] #[], .bool false, .bool false] 94 (0, 0))) (.cells #[.func (.func 84) #[] #[]] 92 (0, 0))) (.cells #[.func (.func 85) #[] #[.pointer (some ⟨w.heap.size + 1, 0, none⟩)]] 92 (0, 0)); generalize World.alloc _ _ = W at *; obtain ⟨c0, c1, c2, -⟩ := blk3 h0; (exact bodyPost_ret (v := .tuple #[.agg #[.func (.func 84) #[] #[], .bool false, .bool false], .bool true]) (by simp [results, Try.results49, go_sem, c0, c1, c2]) rfl ⟨⟨_, _, _, _, rfl, askNext.congr fun _ _ _ => rfl, trivial, fun b hb => hb.elim⟩, hb⟩)
set_option maxRecDepth 10000 in
set_option maxHeartbeats 2000000 in
theorem frames_2 (w : World) : Calls Try.prog 49 #[.int .i64 2] w fun e w' => FrA 2 w e w' ∧ Below w.heap.size w w' := by
  go_enter Try.func49, Try.ntmps49
  go_wp2_with fail; obtain ⟨h0, h1, h2⟩ := blk_threeM w (.cells #[.func (.func 84) #[] #[], .bool false, .bool true] 94 (0, 0)) (.cells #[.func (.func 84) #[] #[]] 92 (0, 0)) (.cells #[.func (.func 85) #[] #[.pointer (some ⟨w.heap.size + 1, 0, none⟩)]] 92 (0, 0)); have hb := below_more (below_more (below_more (Below.refl w.heap.size w) (.cells #[.func (.func 84) #[] #[], .bool false, .bool true] 94 (0, 0))) (.cells #[.func (.func 84) #[] #[]] 92 (0, 0))) (.cells #[.func (.func 85) #[] #[.pointer (some ⟨w.heap.size + 1, 0, none⟩)]] 92 (0, 0)); generalize World.alloc _ _ = W at *; obtain ⟨c0, c1, c2, -⟩ := blk3 h0; (exact bodyPost_ret (v := .tuple #[.agg #[.func (.func 84) #[] #[], .bool false, .bool true], .bool true]) (by simp [results, Try.results49, go_sem, c0, c1, c2]) rfl ⟨⟨_, _, _, _, rfl, askNext.congr fun _ _ _ => rfl, trivial, fun b hb => hb.elim⟩, hb⟩)
set_option maxRecDepth 10000 in
set_option maxHeartbeats 2000000 in
theorem frames_3 (w : World) : Calls Try.prog 49 #[.int .i64 3] w fun e w' => FrA 3 w e w' ∧ Below w.heap.size w w' := by
  go_enter Try.func49, Try.ntmps49
  go_wp2_with fail; obtain ⟨h0, h1, h2⟩ := blk_threeM w (.cells #[.func (.func 84) #[] #[], .bool true, .bool false] 94 (0, 0)) (.cells #[.func (.func 84) #[] #[]] 92 (0, 0)) (.cells #[.func (.func 85) #[] #[.pointer (some ⟨w.heap.size + 1, 0, none⟩)]] 92 (0, 0)); have hb := below_more (below_more (below_more (Below.refl w.heap.size w) (.cells #[.func (.func 84) #[] #[], .bool true, .bool false] 94 (0, 0))) (.cells #[.func (.func 84) #[] #[]] 92 (0, 0))) (.cells #[.func (.func 85) #[] #[.pointer (some ⟨w.heap.size + 1, 0, none⟩)]] 92 (0, 0)); generalize World.alloc _ _ = W at *; obtain ⟨c0, c1, c2, -⟩ := blk3 h0; (exact bodyPost_ret (v := .tuple #[.agg #[.func (.func 84) #[] #[], .bool true, .bool false], .bool true]) (by simp [results, Try.results49, go_sem, c0, c1, c2]) rfl ⟨⟨_, _, _, _, rfl, askNext.congr fun _ _ _ => rfl, trivial, fun b hb => hb.elim⟩, hb⟩)
set_option maxRecDepth 10000 in
set_option maxHeartbeats 2000000 in
theorem frames_4 (w : World) : Calls Try.prog 49 #[.int .i64 4] w fun e w' => FrA 4 w e w' ∧ Below w.heap.size w w' := by
  go_enter Try.func49, Try.ntmps49
  go_wp2_with fail; obtain ⟨h0, h1, h2⟩ := blk_threeM w (.cells #[.func (.func 85) #[] #[.pointer (some ⟨w.heap.size + 1, 0, none⟩)], .bool false, .bool false] 94 (0, 0)) (.cells #[.func (.func 84) #[] #[]] 92 (0, 0)) (.cells #[.func (.func 85) #[] #[.pointer (some ⟨w.heap.size + 1, 0, none⟩)]] 92 (0, 0)); have hb := below_more (below_more (below_more (Below.refl w.heap.size w) (.cells #[.func (.func 85) #[] #[.pointer (some ⟨w.heap.size + 1, 0, none⟩)], .bool false, .bool false] 94 (0, 0))) (.cells #[.func (.func 84) #[] #[]] 92 (0, 0))) (.cells #[.func (.func 85) #[] #[.pointer (some ⟨w.heap.size + 1, 0, none⟩)]] 92 (0, 0)); generalize World.alloc _ _ = W at *; obtain ⟨c0, c1, c2, -⟩ := blk3 h0; (exact bodyPost_ret (v := .tuple #[.agg #[.func (.func 85) #[] #[.pointer (some ⟨w.heap.size + 1, 0, none⟩)], .bool false, .bool false], .bool true]) (by simp [results, Try.results49, go_sem, c0, c1, c2]) rfl ⟨⟨_, _, _, _, rfl, (askBynd askNext (w.heap.size + 1)).congr fun _ _ _ => rfl, ⟨h1, trivial⟩, fun b hb => by rcases hb with rfl | hb <;> first | omega | exact hb.elim⟩, hb⟩)
set_option maxRecDepth 10000 in
set_option maxHeartbeats 2000000 in
theorem frames_5 (w : World) : Calls Try.prog 49 #[.int .i64 5] w fun e w' => FrA 5 w e w' ∧ Below w.heap.size w w' := by
  go_enter Try.func49, Try.ntmps49
  go_wp2_with fail; obtain ⟨h0, h1, h2⟩ := blk_threeM w (.cells #[.func (.func 85) #[] #[.pointer (some ⟨w.heap.size + 1, 0, none⟩)], .bool true, .bool false] 94 (0, 0)) (.cells #[.func (.func 84) #[] #[]] 92 (0, 0)) (.cells #[.func (.func 85) #[] #[.pointer (some ⟨w.heap.size + 1, 0, none⟩)]] 92 (0, 0)); have hb := below_more (below_more (below_more (Below.refl w.heap.size w) (.cells #[.func (.func 85) #[] #[.pointer (some ⟨w.heap.size + 1, 0, none⟩)], .bool true, .bool false] 94 (0, 0))) (.cells #[.func (.func 84) #[] #[]] 92 (0, 0))) (.cells #[.func (.func 85) #[] #[.pointer (some ⟨w.heap.size + 1, 0, none⟩)]] 92 (0, 0)); generalize World.alloc _ _ = W at *; obtain ⟨c0, c1, c2, -⟩ := blk3 h0; (exact bodyPost_ret (v := .tuple #[.agg #[.func (.func 85) #[] #[.pointer (some ⟨w.heap.size + 1, 0, none⟩)], .bool true, .bool false], .bool true]) (by simp [results, Try.results49, go_sem, c0, c1, c2]) rfl ⟨⟨_, _, _, _, rfl, (askBynd askNext (w.heap.size + 1)).congr fun _ _ _ => rfl, ⟨h1, trivial⟩, fun b hb => by rcases hb with rfl | hb <;> first | omega | exact hb.elim⟩, hb⟩)
set_option maxRecDepth 10000 in
set_option maxHeartbeats 2000000 in
theorem frames_8 (w : World) : Calls Try.prog 49 #[.int .i64 8] w fun e w' => FrA 8 w e w' ∧ Below w.heap.size w w' := by
  go_enter Try.func49, Try.ntmps49
  go_wp2_with fail; obtain ⟨h0, h1, h2⟩ := blk_threeM w (.cells #[.func (.func 86) #[] #[.pointer (some ⟨w.heap.size + 1 + 1, 0, none⟩)], .bool false, .bool false] 94 (0, 0)) (.cells #[.func (.func 84) #[] #[]] 92 (0, 0)) (.cells #[.func (.func 85) #[] #[.pointer (some ⟨w.heap.size + 1, 0, none⟩)]] 92 (0, 0)); have hb := below_more (below_more (below_more (Below.refl w.heap.size w) (.cells #[.func (.func 86) #[] #[.pointer (some ⟨w.heap.size + 1 + 1, 0, none⟩)], .bool false, .bool false] 94 (0, 0))) (.cells #[.func (.func 84) #[] #[]] 92 (0, 0))) (.cells #[.func (.func 85) #[] #[.pointer (some ⟨w.heap.size + 1, 0, none⟩)]] 92 (0, 0)); generalize World.alloc _ _ = W at *; obtain ⟨c0, c1, c2, -⟩ := blk3 h0; (exact bodyPost_ret (v := .tuple #[.agg #[.func (.func 86) #[] #[.pointer (some ⟨w.heap.size + 1 + 1, 0, none⟩)], .bool false, .bool false], .bool true]) (by simp [results, Try.results49, go_sem, c0, c1, c2]) rfl ⟨⟨_, _, _, _, rfl, (askOnw (askBynd askNext (w.heap.size + 1)) (w.heap.size + 1 + 1)).congr fun _ _ _ => rfl, ⟨h2, h1, trivial⟩, fun b hb => by rcases hb with rfl | rfl | hb <;> first | omega | exact hb.elim⟩, hb⟩)
set_option maxRecDepth 10000 in
set_option maxHeartbeats 2000000 in
theorem frames_6 (w : World) : Calls Try.prog 49 #[.int .i64 6] w fun e w' => FrA 6 w e w' ∧ Below w.heap.size w w' := by
  (have HBw : Hid (∀ fn bd cp W, Calls Try.prog 87 #[.func fn bd cp] W _) := fun fn bd cp W => bothWays_any fn bd cp W)
  go_enter Try.func49, Try.ntmps49
  go_wp2_with fail; refine (HBw.out _ _ _ _).mono ?_; rintro _ w1 ⟨rfl, hw1⟩; obtain ⟨X, hX⟩ : ∃ X, X = ((w.alloc (.cells #[.nilFunc, .bool false, .bool false] 94 (0, 0))).alloc (.cells #[.func (.func 84) #[] #[]] 92 (0, 0))).alloc (.cells #[.func (.func 85) #[] #[.pointer (some ⟨w.heap.size + 1, 0, none⟩)]] 92 (0, 0)) := ⟨_, rfl⟩; obtain ⟨h0, h1, h2⟩ := blk_threeM w (.cells #[.nilFunc, .bool false, .bool false] 94 (0, 0)) (.cells #[.func (.func 84) #[] #[]] 92 (0, 0)) (.cells #[.func (.func 85) #[] #[.pointer (some ⟨w.heap.size + 1, 0, none⟩)]] 92 (0, 0)); (have hb : Below w.heap.size w X := by rw [hX]; exact below_more (below_more (below_more (Below.refl w.heap.size w) _) _) _); rw [← hX] at h0 h1 h2 hw1 ⊢; clear hX h2; (have k3 : w1.heap[X.heap.size]? = some (.cells #[.func (.func 85) #[] #[.pointer (some ⟨w.heap.size + 1, 0, none⟩)]] 92 (0, 0)) := by rw [hw1]; exact blk_new _ _); (have hb1 : Below X.heap.size X w1 := by rw [hw1]; exact below_more (Below.refl _ _) _); have k0 := below_keep hb1 h0; have k1 := below_keep hb1 h1; have hs : w.heap.size ≤ X.heap.size := hb.size; have hlt := lt_of_block h1; have hB1 := below_join hb hb1; clear hw1 hb1 hb h0 h1; obtain ⟨c0, c1, c2, d0, d1, d2⟩ := blk3 k0; go_wp2_with fail; have f0 := set3M k0 (.func (.func 106) #[] #[.pointer (some ⟨X.heap.size, 0, none⟩)]) (.bool true) (.bool false); have hB2 := ((hB1.setCell (p := ⟨w.heap.size, 0, none⟩) (Nat.le_refl _) (.func (.func 106) #[] #[.pointer (some ⟨X.heap.size, 0, none⟩)])).setCell (p := ⟨w.heap.size, 1, none⟩) (Nat.le_refl _) (.bool true)).setCell (p := ⟨w.heap.size, 2, none⟩) (Nat.le_refl _) (.bool false); (have hfar : ∀ q, q ≠ w.heap.size → (((w1.setCell ⟨w.heap.size, 0, none⟩ (.func (.func 106) #[] #[.pointer (some ⟨X.heap.size, 0, none⟩)])).setCell ⟨w.heap.size, 1, none⟩ (.bool true)).setCell ⟨w.heap.size, 2, none⟩ (.bool false)).heap[q]? = w1.heap[q]? := fun q hq => by rw [farM hq, farM hq, farM hq]); generalize World.setCell _ _ _ = W at *
  replace k1 := (hfar _ (by omega)).trans k1
  replace k3 := (hfar _ (by omega)).trans k3
  clear c0 c1 c2 d0 d1 d2; obtain ⟨c0, c1, c2, -⟩ := blk3 f0; (exact bodyPost_ret (v := .tuple #[.agg #[.func (.func 106) #[] #[.pointer (some ⟨X.heap.size, 0, none⟩)], .bool true, .bool false], .bool true]) (by simp [results, Try.results49, go_sem, c0, c1, c2]) rfl ⟨⟨_, _, _, _, rfl, (askBoth (askBynd askNext (w.heap.size + 1)) X.heap.size).congr fun _ _ _ => rfl, ⟨k3, k1, trivial⟩, fun b hb => by rcases hb with rfl | rfl | hb <;> first | exact hs | omega | exact hb.elim⟩, hB2⟩)
set_option maxRecDepth 10000 in
set_option maxHeartbeats 2000000 in
theorem frames_7 (w : World) : Calls Try.prog 49 #[.int .i64 7] w fun e w' => FrA 7 w e w' ∧ Below w.heap.size w w' := by
  (have HBw : Hid (∀ fn bd cp W, Calls Try.prog 87 #[.func fn bd cp] W _) := fun fn bd cp W => bothWays_any fn bd cp W)
  go_enter Try.func49, Try.ntmps49
  go_wp2_with fail; refine (HBw.out _ _ _ _).mono ?_; rintro _ w1 ⟨rfl, hw1⟩; obtain ⟨X, hX⟩ : ∃ X, X = ((w.alloc (.cells #[.nilFunc, .bool false, .bool false] 94 (0, 0))).alloc (.cells #[.func (.func 84) #[] #[]] 92 (0, 0))).alloc (.cells #[.func (.func 85) #[] #[.pointer (some ⟨w.heap.size + 1, 0, none⟩)]] 92 (0, 0)) := ⟨_, rfl⟩; obtain ⟨h0, h1, h2⟩ := blk_threeM w (.cells #[.nilFunc, .bool false, .bool false] 94 (0, 0)) (.cells #[.func (.func 84) #[] #[]] 92 (0, 0)) (.cells #[.func (.func 85) #[] #[.pointer (some ⟨w.heap.size + 1, 0, none⟩)]] 92 (0, 0)); (have hb : Below w.heap.size w X := by rw [hX]; exact below_more (below_more (below_more (Below.refl w.heap.size w) _) _) _); rw [← hX] at h0 h1 h2 hw1 ⊢; clear hX h2; (have k3 : w1.heap[X.heap.size]? = some (.cells #[.func (.func 84) #[] #[]] 92 (0, 0)) := by rw [hw1]; exact blk_new _ _); (have hb1 : Below X.heap.size X w1 := by rw [hw1]; exact below_more (Below.refl _ _) _); have k0 := below_keep hb1 h0; have k1 := below_keep hb1 h1; have hs : w.heap.size ≤ X.heap.size := hb.size; have hlt := lt_of_block h1; have hB1 := below_join hb hb1; clear hw1 hb1 hb h0 h1; obtain ⟨c0, c1, c2, d0, d1, d2⟩ := blk3 k0; go_wp2_with fail; have f0 := set3M k0 (.func (.func 106) #[] #[.pointer (some ⟨X.heap.size, 0, none⟩)]) (.bool true) (.bool false); have hB2 := ((hB1.setCell (p := ⟨w.heap.size, 0, none⟩) (Nat.le_refl _) (.func (.func 106) #[] #[.pointer (some ⟨X.heap.size, 0, none⟩)])).setCell (p := ⟨w.heap.size, 1, none⟩) (Nat.le_refl _) (.bool true)).setCell (p := ⟨w.heap.size, 2, none⟩) (Nat.le_refl _) (.bool false); (have hfar : ∀ q, q ≠ w.heap.size → (((w1.setCell ⟨w.heap.size, 0, none⟩ (.func (.func 106) #[] #[.pointer (some ⟨X.heap.size, 0, none⟩)])).setCell ⟨w.heap.size, 1, none⟩ (.bool true)).setCell ⟨w.heap.size, 2, none⟩ (.bool false)).heap[q]? = w1.heap[q]? := fun q hq => by rw [farM hq, farM hq, farM hq]); generalize World.setCell _ _ _ = W at *
  replace k1 := (hfar _ (by omega)).trans k1
  replace k3 := (hfar _ (by omega)).trans k3
  clear c0 c1 c2 d0 d1 d2; obtain ⟨c0, c1, c2, -⟩ := blk3 f0; (exact bodyPost_ret (v := .tuple #[.agg #[.func (.func 106) #[] #[.pointer (some ⟨X.heap.size, 0, none⟩)], .bool true, .bool false], .bool true]) (by simp [results, Try.results49, go_sem, c0, c1, c2]) rfl ⟨⟨_, _, _, _, rfl, (askBoth askNext X.heap.size).congr fun _ _ _ => rfl, ⟨k3, trivial⟩, fun b hb => by rcases hb with rfl | hb <;> first | exact hs | exact hb.elim⟩, hB2⟩)
set_option maxRecDepth 10000 in
set_option maxHeartbeats 2000000 in
theorem frames_no (k : Int) (hk : ¬ (1 ≤ k ∧ k ≤ 8)) (w : World) : Calls Try.prog 49 #[.int .i64 k] w fun e w' => e = .returned (.tuple #[.agg #[.nilFunc, .bool false, .bool false], .bool false]) ∧ Below w.heap.size w w' := by
  (have n1 : (k == 1) = false := by simp; omega); (have n2 : (k == 2) = false := by simp; omega); (have n3 : (k == 3) = false := by simp; omega); (have n4 : (k == 4) = false := by simp; omega); (have n5 : (k == 5) = false := by simp; omega); (have n6 : (k == 6) = false := by simp; omega); (have n7 : (k == 7) = false := by simp; omega); (have n8 : (k == 8) = false := by simp; omega)
  go_enter Try.func49, Try.ntmps49
  go_wp2_with fail; obtain ⟨h0, h1, h2⟩ := blk_threeM w (.cells #[.nilFunc, .bool false, .bool false] 94 (0, 0)) (.cells #[.func (.func 84) #[] #[]] 92 (0, 0)) (.cells #[.func (.func 85) #[] #[.pointer (some ⟨w.heap.size + 1, 0, none⟩)]] 92 (0, 0)); have hb := below_more (below_more (below_more (Below.refl w.heap.size w) (.cells #[.nilFunc, .bool false, .bool false] 94 (0, 0))) (.cells #[.func (.func 84) #[] #[]] 92 (0, 0))) (.cells #[.func (.func 85) #[] #[.pointer (some ⟨w.heap.size + 1, 0, none⟩)]] 92 (0, 0)); generalize World.alloc _ _ = W at *; obtain ⟨c0, c1, c2, -⟩ := blk3 h0; (exact bodyPost_ret (v := .tuple #[.agg #[.nilFunc, .bool false, .bool false], .bool false]) (by simp [results, Try.results49, go_sem, c0, c1, c2]) rfl ⟨rfl, hb⟩)
theorem frames_yes (k : Nat) (hk : 1 ≤ k ∧ k ≤ 8) (w : World) : Calls Try.prog 49 #[.int .i64 (k : Nat)] w fun e w' => FrA k w e w' ∧ Below w.heap.size w w' := by
  (have hc : k = 1 ∨ k = 2 ∨ k = 3 ∨ k = 4 ∨ k = 5 ∨ k = 6 ∨ k = 7 ∨ k = 8 := by omega)
  rcases hc with rfl | rfl | rfl | rfl | rfl | rfl | rfl | rfl
  · exact frames_1 w
  · exact frames_2 w
  · exact frames_3 w
  · exact frames_4 w
  · exact frames_5 w
  · exact frames_6 w
  · exact frames_7 w
  · exact frames_8 w
end Go.Proofs.Ytmahgfgndfcmpag
