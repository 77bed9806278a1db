/- Texts of one proof, one behind the other: SN8. -/
import Derived.Test.YtpiaeapgjljjhaaGreatB33
/- Walks: newChecker, listsFault, Check of a structure (made by gen/sn8.py). -/
namespace Go.Proofs.YtpiaeapgjljjhaaGreat
open Go.RowKit Go.Sort Go.Maps Go.WideMaps

theorem rowH2 (l : List Value) (h0 : l.length = 2) : ∃ x0 x1, l = [x0, x1] := by
  obtain ⟨x0, l1, e0, h1⟩ := cons_lenM h0; obtain ⟨x1, l2, e1, h2⟩ := cons_lenM h1; have e2 : l2 = [] := List.length_eq_zero_iff.1 h2; subst e2 e1 e0; exact ⟨x0, x1, rfl⟩
theorem rowH6 (l : List Value) (h0 : l.length = 6) : ∃ x0 x1 x2 x3 x4 x5, l = [x0, x1, x2, x3, x4, x5] := by
  obtain ⟨x0, l1, e0, h1⟩ := cons_lenM h0; obtain ⟨x1, l2, e1, h2⟩ := cons_lenM h1; obtain ⟨x2, l3, e2, h3⟩ := cons_lenM h2; obtain ⟨x3, l4, e3, h4⟩ := cons_lenM h3; obtain ⟨x4, l5, e4, h5⟩ := cons_lenM h4; obtain ⟨x5, l6, e5, h6⟩ := cons_lenM h5; have e6 : l6 = [] := List.length_eq_zero_iff.1 h6; subst e6 e5 e4 e3 e2 e1 e0; exact ⟨x0, x1, x2, x3, x4, x5, rfl⟩
set_option maxHeartbeats 4000000 in
theorem newLk_any (N : Nat) (w : World) :
    Calls Tryz.prog 170 #[.int .i64 (N : Nat)] w fun e w' => ∃ bm, e = .returned (.agg #[.int .i64 (N : Nat), .map (some bm)]) ∧ GSeen w' bm [] 0 ∧ w.heap.size ≤ bm ∧ Below w.heap.size w w' := by
  obtain ⟨W, hWe⟩ : ∃ W, (w.alloc (.cells #[.int .i64 0, .map none] 230 (0, 0))).alloc (.map #[] 0) = W := ⟨_, rfl⟩; (have hB : Below w.heap.size w W := by rw [← hWe]; exact below_more (below_more (Below.refl _ _) _) _); (have hq : W.heap[w.heap.size]? = some (.cells #[.int .i64 0, .map none] 230 (0, 0)) := by rw [← hWe]; exact alloc_keep (blk_new _ _) _)
  have hg : GSeen W (w.heap.size + 1) [] 0 := by
    have := GMap.nil (w := w.alloc (.cells #[.int .i64 0, .map none] 230 (0, 0))) rfl; (rw [hWe, show (w.alloc (.cells #[.int .i64 0, .map none] 230 (0, 0))).heap.size = w.heap.size + 1 by simp] at this); (exact ⟨_, this, fun s v h => (by cases h), fun s => rfl⟩)
  have HB : Hid (Below w.heap.size w W) := hB; have HQ : Hid (W.heap[w.heap.size]? = some (.cells #[.int .i64 0, .map none] 230 (0, 0))) := hq; have HG : Hid (GSeen W (w.heap.size + 1) [] 0) := hg; have hmm := @run_makeMap Tryz.prog; obtain ⟨k1, k2, k3, k4⟩ := blk2 hq; have hs := lt_of_block hq; clear hB hq hg
  go_enter Tryz.func170, Tryz.ntmps170
  go_wp2_with fail; have f2 := set2 HQ.out (.int .i64 (N : Nat)) (.map (some (w.heap.size + 1))); have b2 := (HB.out.setCell (p := ⟨w.heap.size, 0, none⟩) (Nat.le_refl _) (.int .i64 (N : Nat))).setCell (p := ⟨w.heap.size, 1, none⟩) (Nat.le_refl _) (.map (some (w.heap.size + 1))); (have hg2 : GSeen ((W.setCell ⟨w.heap.size, 0, none⟩ (.int .i64 (N : Nat))).setCell ⟨w.heap.size, 1, none⟩ (.map (some (w.heap.size + 1)))) (w.heap.size + 1) [] 0 := HG.out.same ((Below.heap_setCell _ _ _ _ (by simp)).trans (Below.heap_setCell _ _ _ _ (by simp)))); generalize World.setCell _ _ _ = F at f2 b2 hg2 ⊢; clear k1 k2 k3 k4; obtain ⟨k1, k2, -⟩ := blk2 f2; (exact bodyPost_ret (v := .agg #[.int .i64 (N : Nat), .map (some (w.heap.size + 1))]) (by simp [results, Tryz.results170, go_sem, k1, k2]) rfl ⟨_, rfl, hg2, by omega, b2⟩)
structure GLf where
  g3 : Nat
  g4 : Nat
  m1 : Nat
  m2 : Nat
/-- On the way: two checkers are made and put into variables. -/
structure StLf (w : World) (N : Nat) (c1 c2 a3 a4 s3 s4 : Bool) (y : GLf) (wx : World) : Prop where
  below : Below w.heap.size w wx
  k1 : c1 = true → GSeen wx y.m1 [] 0 ∧ w.heap.size ≤ y.m1
  k2 : c2 = true → GSeen wx y.m2 [] 0 ∧ w.heap.size ≤ y.m2
  b3 : a3 = true → w.heap.size ≤ y.g3 ∧ wx.heap[y.g3]? = some (cond s3 (.cells #[.int .i64 (N : Nat), .map (some y.m1)] 230 (0, 0)) (.cells #[.int .i64 0, .map none] 230 (0, 0)))
  b4 : a4 = true → w.heap.size ≤ y.g4 ∧ wx.heap[y.g4]? = some (cond s4 (.cells #[.int .i64 (N : Nat), .map (some y.m2)] 230 (0, 0)) (.cells #[.int .i64 0, .map none] 230 (0, 0)))
  nm : c1 = true → c2 = true → y.m1 ≠ y.m2
  ng : a3 = true → a4 = true → y.g3 ≠ y.g4
section
variable {w wx w9 : World} {N m : Nat} {c1 c2 a3 a4 s3 s4 : Bool} {y : GLf}
theorem StLf.al3 (h : StLf w N c1 c2 false a4 false s4 y wx) : StLf w N c1 c2 true a4 false s4 { y with g3 := wx.heap.size } (wx.alloc (.cells #[.int .i64 0, .map none] 230 (0, 0))) :=
  ⟨below_more h.below _, fun e => ⟨(h.k1 e).1.up (below_more (Below.refl _ _) _), (h.k1 e).2⟩, fun e => ⟨(h.k2 e).1.up (below_more (Below.refl _ _) _), (h.k2 e).2⟩, fun _ => ⟨h.below.size, blk_new _ _⟩, fun e => ⟨(h.b4 e).1, alloc_keep (h.b4 e).2 _⟩, h.nm, fun _ e => by have := lt_of_block (h.b4 e).2; show wx.heap.size ≠ y.g4; omega⟩
theorem StLf.al4 (h : StLf w N c1 c2 a3 false s3 false y wx) : StLf w N c1 c2 a3 true s3 false { y with g4 := wx.heap.size } (wx.alloc (.cells #[.int .i64 0, .map none] 230 (0, 0))) :=
  ⟨below_more h.below _, fun e => ⟨(h.k1 e).1.up (below_more (Below.refl _ _) _), (h.k1 e).2⟩, fun e => ⟨(h.k2 e).1.up (below_more (Below.refl _ _) _), (h.k2 e).2⟩, fun e => ⟨(h.b3 e).1, alloc_keep (h.b3 e).2 _⟩, fun _ => ⟨h.below.size, blk_new _ _⟩, h.nm, fun e _ => by have := lt_of_block (h.b3 e).2; show y.g3 ≠ wx.heap.size; omega⟩
theorem StLf.ca1 (h : StLf w N false c2 a3 a4 s3 s4 y wx) (hs : s3 = false) (hg : GSeen w9 m [] 0) (hm : wx.heap.size ≤ m) (hb : Below wx.heap.size wx w9) : StLf w N true c2 a3 a4 s3 s4 { y with m1 := m } w9 :=
  ⟨below_join h.below hb, fun _ => ⟨hg, by have := h.below.size; show _ ≤ m; omega⟩, fun e => ⟨(h.k2 e).1.up hb, (h.k2 e).2⟩, fun e => ⟨(h.b3 e).1, by subst hs; exact below_keep hb (h.b3 e).2⟩, fun e => ⟨(h.b4 e).1, below_keep hb (h.b4 e).2⟩, fun _ e => by have := (h.k2 e).1.lt; show m ≠ y.m2; omega, h.ng⟩
theorem StLf.ca2 (h : StLf w N c1 false a3 a4 s3 s4 y wx) (hs : s4 = false) (hg : GSeen w9 m [] 0) (hm : wx.heap.size ≤ m) (hb : Below wx.heap.size wx w9) : StLf w N c1 true a3 a4 s3 s4 { y with m2 := m } w9 :=
  ⟨below_join h.below hb, fun e => ⟨(h.k1 e).1.up hb, (h.k1 e).2⟩, fun _ => ⟨hg, by have := h.below.size; show _ ≤ m; omega⟩, fun e => ⟨(h.b3 e).1, below_keep hb (h.b3 e).2⟩, fun e => ⟨(h.b4 e).1, by subst hs; exact below_keep hb (h.b4 e).2⟩, fun e _ => by have := (h.k1 e).1.lt; show y.m1 ≠ m; omega, h.ng⟩
theorem far2S {w : World} {b q : Nat} (h : q ≠ b) (v0 v1 : Value) : ((w.setCell ⟨b, 0, none⟩ v0).setCell ⟨b, 1, none⟩ v1).heap[q]? = w.heap[q]? :=
  (Below.heap_setCell _ _ _ _ (by simpa using h)).trans (Below.heap_setCell _ _ _ _ (by simpa using h))
theorem StLf.st3 (h : StLf w N true c2 true a4 false s4 y wx) : StLf w N true c2 true a4 true s4 y ((wx.setCell ⟨y.g3, 0, none⟩ (.int .i64 (N : Nat))).setCell ⟨y.g3, 1, none⟩ (.map (some y.m1))) := by
  have hq := (h.b3 rfl).2; (exact ⟨(h.below.setCell (p := ⟨y.g3, 0, none⟩) (h.b3 rfl).1 _).setCell (p := ⟨y.g3, 1, none⟩) (h.b3 rfl).1 _, fun e => ⟨(h.k1 e).1.same (far2S (fun e2 => (h.k1 e).1.noCells _ _ _ (by rw [e2]; exact hq)) _ _), (h.k1 e).2⟩, fun e => ⟨(h.k2 e).1.same (far2S (fun e2 => (h.k2 e).1.noCells _ _ _ (by rw [e2]; exact hq)) _ _), (h.k2 e).2⟩, fun _ => ⟨(h.b3 rfl).1, set2 hq _ _⟩, fun e => ⟨(h.b4 e).1, (far2S (h.ng rfl e).symm _ _).trans (h.b4 e).2⟩, h.nm, h.ng⟩)
theorem StLf.st4 (h : StLf w N c1 true a3 true s3 false y wx) : StLf w N c1 true a3 true s3 true y ((wx.setCell ⟨y.g4, 0, none⟩ (.int .i64 (N : Nat))).setCell ⟨y.g4, 1, none⟩ (.map (some y.m2))) := by
  have hq := (h.b4 rfl).2; (exact ⟨(h.below.setCell (p := ⟨y.g4, 0, none⟩) (h.b4 rfl).1 _).setCell (p := ⟨y.g4, 1, none⟩) (h.b4 rfl).1 _, fun e => ⟨(h.k1 e).1.same (far2S (fun e2 => (h.k1 e).1.noCells _ _ _ (by rw [e2]; exact hq)) _ _), (h.k1 e).2⟩, fun e => ⟨(h.k2 e).1.same (far2S (fun e2 => (h.k2 e).1.noCells _ _ _ (by rw [e2]; exact hq)) _ _), (h.k2 e).2⟩, fun e => ⟨(h.b3 e).1, (far2S (h.ng e rfl) _ _).trans (h.b3 e).2⟩, fun _ => ⟨(h.b4 rfl).1, set2 hq _ _⟩, h.nm, h.ng⟩)
end
theorem lf_end {w W2 w1 w2 : World} {b m1 m2 : Nat} {o : Obj} (hb : Below w.heap.size w W2) (hq : W2.heap[b]? = some o) (h1 : w.heap.size ≤ m1) (h2 : w.heap.size ≤ m2) (hbs : b < W2.heap.size) (hn1 : b ≠ m1) (hn2 : b ≠ m2) (hk1 : Kept (fun b => b ≠ m1 ∧ b ≠ m2) W2 w1) (hk2 : Kept (· ≠ W2.heap.size) w1 w2) : Below w.heap.size w w2 ∧ w2.heap[b]? = some o := by
  have hs := hb.size; have hs1 := hk1.size; (refine ⟨⟨hk2.os.trans (hk1.os.trans hb.os), hk2.tape.trans (hk1.tape.trans hb.tape), hk2.output.trans (hk1.output.trans hb.output), by have := hk2.size; omega, fun j hj => ?_⟩, ?_⟩)
  · rw [hk2.block j (by omega) (by omega), hk1.block j (by omega) ⟨by omega, by omega⟩, hb.block j hj]
  · rw [hk2.block b (by omega) (by omega), hk1.block b hbs ⟨hn1, hn2⟩, hq]
/-- What listsFault says. -/
def lscode (N : Nat) (s : StD) : Int × Int := match lsF N s with
  | none => (0, 0)
  | some p => (p.1, (p.2 : Int))
theorem lists2_in (cap : Array Value) (w : World) : (callFunc 172 cap).run Tryz.prog w = .ok (.enter 172 cap) w := by
  simp [go_sem]
set_option maxRecDepth 10000 in
set_option maxHeartbeats 16000000 in
theorem listsFault_any (N : Nat) (hN : N ≤ 8) (s : StD) (hs : s.n = (N : Int)) (v : Value) (w : World) (hS : StR w s v) (hf10 : s.funs.length ≤ 10) (hp10 : s.preds.length ≤ 10) :
    Calls Tryz.prog 117 #[v] w fun e w' => e = .returned (.agg #[.int .i64 (lscode N s).1, .int .i64 (lscode N s).2]) ∧ Below w.heap.size w w' := by
  obtain ⟨af, cf, ap, cp, rfl, hF, hP⟩ := hS; rw [hs]; obtain ⟨W0, hWe⟩ : ∃ W, (w.alloc (.cells #[.int .i64 (N : Nat), .slice af s.funs.length cf, .slice ap s.preds.length cp] 62 (0, 0))).alloc (.cells #[.int .i64 0, .int .i64 0] 30 (0, 0)) = W := ⟨_, rfl⟩; (have hB0 : Below w.heap.size w W0 := by rw [← hWe]; exact below_more (below_more (Below.refl _ _) _) _); (have hq0 : W0.heap[w.heap.size]? = some (.cells #[.int .i64 (N : Nat), .slice af s.funs.length cf, .slice ap s.preds.length cp] 62 (0, 0)) := by rw [← hWe]; exact alloc_keep (blk_new _ _) _)
  have hq1 : W0.heap[w.heap.size + 1]? = some (.cells #[.int .i64 0, .int .i64 0] 30 (0, 0)) := by
    have := blk_new (w.alloc (.cells #[.int .i64 (N : Nat), .slice af s.funs.length cf, .slice ap s.preds.length cp] 62 (0, 0))) (.cells #[.int .i64 0, .int .i64 0] 30 (0, 0)); rw [← hWe]; simpa using this
  have HB0 : Hid (Below w.heap.size w W0) := hB0; have HQ0 : Hid (W0.heap[w.heap.size]? = some (.cells #[.int .i64 (N : Nat), .slice af s.funs.length cf, .slice ap s.preds.length cp] 62 (0, 0))) := hq0; have HQ1 : Hid (W0.heap[w.heap.size + 1]? = some (.cells #[.int .i64 0, .int .i64 0] 30 (0, 0))) := hq1; have HFP : Hid (FnL w (.slice af s.funs.length cf) s.funs ∧ PdL w (.slice ap s.preds.length cp) s.preds ∧ s.funs.length ≤ 10 ∧ s.preds.length ≤ 10 ∧ N ≤ 8) := ⟨hF, hP, hf10, hp10, hN⟩; have hs1 := lt_of_block hq0; have hs2 := lt_of_block hq1; clear hF hP hf10 hp10 hN hs hB0 hq0 hq1
  go_enter Tryz.func117, Tryz.ntmps117
  go_wp2_with fail; (refine wp_region_gh (by kernel_rfl) (by kernel_rfl) (by kernel_rfl) 15 rfl (by kernel_rfl) [fun _ v _ => v = (.pointer (some ⟨w.heap.size, 0, none⟩)), fun _ v _ => v = (.int .i64 (N : Nat)), fun y v _ => v = (.agg #[.int .i64 (N : Nat), .map (some y.m1)]), fun _ v _ => v = (.pointer (some ⟨w.heap.size, 0, none⟩)), fun _ v _ => v = (.int .i64 (N : Nat)), fun y v _ => v = (.agg #[.int .i64 (N : Nat), .map (some y.m2)]), fun y v _ => v = (.pointer (some ⟨y.g3, 0, none⟩)), fun y v _ => v = (.pointer (some ⟨y.g4, 0, none⟩)), fun _ _ _ => True, fun _ _ _ => True] (fun _ _ => true) (fun L => StLf W0 N (L 2) (L 5) (L 6) (L 7) (L 8) (L 9)) (⟨0, 0, 0, 0⟩) ?_ ?_ ?_)
  · exact fun wx h1 h2 => ⟨h1, fun e => (by cases e), fun e => (by cases e), fun e => (by cases e), fun e => (by cases e), fun e => (by cases e), fun e => (by cases e)⟩
  · refine ⟨?_, ?_, ?_, ?_, ?_, ?_, ?_, ?_, ?_, ?_, trivial⟩
    · intro L y a wx hSt hLi hdl hcl hold hdep K hK
      have HSt : Hid (StLf W0 N (L 2) (L 5) (L 6) (L 7) (L 8) (L 9) y wx) := hSt; clear hSt; have t1 : a.tmps[1]? = some (.pointer (some ⟨w.heap.size, 0, none⟩)) := hold 1 rfl; clear hold hdep hdl hcl hLi; go_simp; (exact hK.out _ _ y HSt.out rfl (fun j hj hl => ⟨rfl, fun u h => h⟩))
    · intro L y a wx hSt hLi hdl hcl hold hdep K hK
      have HSt : Hid (StLf W0 N (L 2) (L 5) (L 6) (L 7) (L 8) (L 9) y wx) := hSt; clear hSt; obtain ⟨v6, t6, q6⟩ := hdep 0 rfl _ 6 rfl rfl; have e6 : v6 = (.pointer (some ⟨w.heap.size, 0, none⟩)) := q6 rfl; subst e6; obtain ⟨r0, r1, r2, -⟩ := blk3 (below_keep HSt.out.below HQ0.out); clear hold hdep hdl hcl hLi; go_simp; (exact hK.out _ _ y HSt.out rfl (fun j hj hl => ⟨rfl, fun u h => h⟩))
    · intro L y a wx hSt hLi hdl hcl hold hdep K hK
      have HSt : Hid (StLf W0 N (L 2) (L 5) (L 6) (L 7) (L 8) (L 9) y wx) := hSt; clear hSt; obtain ⟨v7, t7, q7⟩ := hdep 1 rfl _ 7 rfl rfl; have e7 : v7 = (.int .i64 (N : Nat)) := q7 rfl; subst e7; (have e9 : L 8 = false := not_yet hLi fun h => hcl 8 _ rfl h 2 rfl); have hS : StLf W0 N (L 2) (L 5) (L 6) (L 7) (L 8) (L 9) y wx := HSt.out; rw [hLi] at hS; clear hold hdep hdl hcl; go_simp; refine (newLk_any N wx).mono ?_; rintro _ w9 ⟨bm, rfl, hg9, hm9, hb9⟩; have HX : Hid (StLf W0 N true (L 5) (L 6) (L 7) (L 8) (L 9) { y with m1 := bm } w9) := hS.ca1 e9 hg9 hm9 hb9; clear hg9 hm9 hb9 hS; go_simp; refine hK.out _ _ { y with m1 := bm } HX.out rfl ?_; intro j hj hl
      rcases j with _ | _ | _ | _ | _ | _ | _ | _ | _ | _ | j
      · exact ⟨rfl, fun u h => h⟩
      · exact ⟨rfl, fun u h => h⟩
      · exact Bool.noConfusion (hLi.symm.trans hj)
      · exact ⟨rfl, fun u h => h⟩
      · exact ⟨rfl, fun u h => h⟩
      · exact ⟨rfl, fun u h => h⟩
      · exact ⟨rfl, fun u h => h⟩
      · exact ⟨rfl, fun u h => h⟩
      · exact ⟨rfl, fun u h => h⟩
      · exact ⟨rfl, fun u h => h⟩
      · exact ⟨rfl, fun u h => h⟩
    · intro L y a wx hSt hLi hdl hcl hold hdep K hK
      have HSt : Hid (StLf W0 N (L 2) (L 5) (L 6) (L 7) (L 8) (L 9) y wx) := hSt; clear hSt; have t1 : a.tmps[1]? = some (.pointer (some ⟨w.heap.size, 0, none⟩)) := hold 1 rfl; clear hold hdep hdl hcl hLi; go_simp; (exact hK.out _ _ y HSt.out rfl (fun j hj hl => ⟨rfl, fun u h => h⟩))
    · intro L y a wx hSt hLi hdl hcl hold hdep K hK
      have HSt : Hid (StLf W0 N (L 2) (L 5) (L 6) (L 7) (L 8) (L 9) y wx) := hSt; clear hSt; obtain ⟨v9, t9, q9⟩ := hdep 3 rfl _ 9 rfl rfl; have e9 : v9 = (.pointer (some ⟨w.heap.size, 0, none⟩)) := q9 rfl; subst e9; obtain ⟨r0, r1, r2, -⟩ := blk3 (below_keep HSt.out.below HQ0.out); clear hold hdep hdl hcl hLi; go_simp; (exact hK.out _ _ y HSt.out rfl (fun j hj hl => ⟨rfl, fun u h => h⟩))
    · intro L y a wx hSt hLi hdl hcl hold hdep K hK
      have HSt : Hid (StLf W0 N (L 2) (L 5) (L 6) (L 7) (L 8) (L 9) y wx) := hSt; clear hSt; obtain ⟨v10, t10, q10⟩ := hdep 4 rfl _ 10 rfl rfl; have e10 : v10 = (.int .i64 (N : Nat)) := q10 rfl; subst e10; (have e9 : L 9 = false := not_yet hLi fun h => hcl 9 _ rfl h 5 rfl); have hS : StLf W0 N (L 2) (L 5) (L 6) (L 7) (L 8) (L 9) y wx := HSt.out; rw [hLi] at hS; clear hold hdep hdl hcl; go_simp; refine (newLk_any N wx).mono ?_; rintro _ w9 ⟨bm, rfl, hg9, hm9, hb9⟩; have HX : Hid (StLf W0 N (L 2) true (L 6) (L 7) (L 8) (L 9) { y with m2 := bm } w9) := hS.ca2 e9 hg9 hm9 hb9; clear hg9 hm9 hb9 hS; go_simp; refine hK.out _ _ { y with m2 := bm } HX.out rfl ?_; intro j hj hl
      rcases j with _ | _ | _ | _ | _ | _ | _ | _ | _ | _ | j
      · exact ⟨rfl, fun u h => h⟩
      · exact ⟨rfl, fun u h => h⟩
      · exact ⟨rfl, fun u h => h⟩
      · exact ⟨rfl, fun u h => h⟩
      · exact ⟨rfl, fun u h => h⟩
      · exact Bool.noConfusion (hLi.symm.trans hj)
      · exact ⟨rfl, fun u h => h⟩
      · exact ⟨rfl, fun u h => h⟩
      · exact ⟨rfl, fun u h => h⟩
      · exact ⟨rfl, fun u h => h⟩
      · exact ⟨rfl, fun u h => h⟩
    · intro L y a wx hSt hLi hdl hcl hold hdep K hK
      have HSt : Hid (StLf W0 N (L 2) (L 5) (L 6) (L 7) (L 8) (L 9) y wx) := hSt; clear hSt; (have e9 : L 8 = false := not_yet hLi fun h => hcl 8 _ rfl h 6 rfl); have hS : StLf W0 N (L 2) (L 5) (L 6) (L 7) (L 8) (L 9) y wx := HSt.out; rw [hLi, e9] at hS; have h8 := hS.al3
      have HX : Hid (StLf W0 N (L 2) (L 5) true (L 7) (L 8) (L 9) { y with g3 := wx.heap.size } (wx.alloc (.cells #[.int .i64 0, .map none] 230 (0, 0)))) := by
        rw [e9]; exact h8
      clear hS h8; clear hold hdep hdl; go_simp; refine hK.out _ _ { y with g3 := wx.heap.size } HX.out rfl ?_; intro j hj hl
      rcases j with _ | _ | _ | _ | _ | _ | _ | _ | _ | _ | j
      · exact ⟨rfl, fun u h => h⟩
      · exact ⟨rfl, fun u h => h⟩
      · exact ⟨rfl, fun u h => h⟩
      · exact ⟨rfl, fun u h => h⟩
      · exact ⟨rfl, fun u h => h⟩
      · exact ⟨rfl, fun u h => h⟩
      · exact Bool.noConfusion (hLi.symm.trans hj)
      · exact ⟨rfl, fun u h => h⟩
      · exact ⟨rfl, fun u h => h⟩
      · exact ⟨rfl, fun u h => h⟩
      · exact ⟨rfl, fun u h => h⟩
    · intro L y a wx hSt hLi hdl hcl hold hdep K hK
      have HSt : Hid (StLf W0 N (L 2) (L 5) (L 6) (L 7) (L 8) (L 9) y wx) := hSt; clear hSt; (have e9 : L 9 = false := not_yet hLi fun h => hcl 9 _ rfl h 7 rfl); have hS : StLf W0 N (L 2) (L 5) (L 6) (L 7) (L 8) (L 9) y wx := HSt.out; rw [hLi, e9] at hS; have h8 := hS.al4
      have HX : Hid (StLf W0 N (L 2) (L 5) (L 6) true (L 8) (L 9) { y with g4 := wx.heap.size } (wx.alloc (.cells #[.int .i64 0, .map none] 230 (0, 0)))) := by
        rw [e9]; exact h8
      clear hS h8; clear hold hdep hdl; go_simp; refine hK.out _ _ { y with g4 := wx.heap.size } HX.out rfl ?_; intro j hj hl
      rcases j with _ | _ | _ | _ | _ | _ | _ | _ | _ | _ | j
      · exact ⟨rfl, fun u h => h⟩
      · exact ⟨rfl, fun u h => h⟩
      · exact ⟨rfl, fun u h => h⟩
      · exact ⟨rfl, fun u h => h⟩
      · exact ⟨rfl, fun u h => h⟩
      · exact ⟨rfl, fun u h => h⟩
      · exact ⟨rfl, fun u h => h⟩
      · exact Bool.noConfusion (hLi.symm.trans hj)
      · exact ⟨rfl, fun u h => h⟩
      · exact ⟨rfl, fun u h => h⟩
      · exact ⟨rfl, fun u h => h⟩
    · intro L y a wx hSt hLi hdl hcl hold hdep K hK
      have HSt : Hid (StLf W0 N (L 2) (L 5) (L 6) (L 7) (L 8) (L 9) y wx) := hSt; clear hSt; obtain ⟨v3, t3, q3⟩ := hdep 6 rfl _ 3 rfl rfl; have e3 : v3 = (.pointer (some ⟨y.g3, 0, none⟩)) := q3 rfl; subst e3; obtain ⟨v8, t8, q8⟩ := hdep 2 rfl _ 8 rfl rfl; have e8 : v8 = (.agg #[.int .i64 (N : Nat), .map (some y.m1)]) := q8 rfl; subst e8; have e9 : L 6 = true := hdl 6 rfl; have e8 : L 2 = true := hdl 2 rfl; have hS : StLf W0 N (L 2) (L 5) (L 6) (L 7) (L 8) (L 9) y wx := HSt.out; rw [hLi, e9, e8] at hS; obtain ⟨d0, d1, f0, f1⟩ := blk2 (show wx.heap[y.g3]? = some (.cells #[.int .i64 0, .map none] 230 (0, 0)) from (hS.b3 rfl).2); have h8 := hS.st3
      have HX : Hid (StLf W0 N (L 2) (L 5) (L 6) (L 7) true (L 9) y ((wx.setCell ⟨y.g3, 0, none⟩ (.int .i64 (N : Nat))).setCell ⟨y.g3, 1, none⟩ (.map (some y.m1)))) := by
        rw [e9, e8]; exact h8
      clear hS h8; clear hold hdep hdl hcl; go_simp; obtain ⟨Z9, hZ9⟩ : ∃ Z, Z = ((wx.setCell ⟨y.g3, 0, none⟩ (.int .i64 (N : Nat))).setCell ⟨y.g3, 1, none⟩ (.map (some y.m1))) := ⟨_, rfl⟩; rw [← hZ9] at HX ⊢; clear hZ9; refine hK.out (.bool false) _ y HX.out trivial ?_; intro j hj hl
      rcases j with _ | _ | _ | _ | _ | _ | _ | _ | _ | _ | j
      · exact ⟨rfl, fun u h => h⟩
      · exact ⟨rfl, fun u h => h⟩
      · exact ⟨rfl, fun u h => h⟩
      · exact ⟨rfl, fun u h => h⟩
      · exact ⟨rfl, fun u h => h⟩
      · exact ⟨rfl, fun u h => h⟩
      · exact ⟨rfl, fun u h => h⟩
      · exact ⟨rfl, fun u h => h⟩
      · exact Bool.noConfusion (hLi.symm.trans hj)
      · exact ⟨rfl, fun u h => h⟩
      · exact ⟨rfl, fun u h => h⟩
    · intro L y a wx hSt hLi hdl hcl hold hdep K hK
      have HSt : Hid (StLf W0 N (L 2) (L 5) (L 6) (L 7) (L 8) (L 9) y wx) := hSt; clear hSt; obtain ⟨v4, t4, q4⟩ := hdep 7 rfl _ 4 rfl rfl; have e4 : v4 = (.pointer (some ⟨y.g4, 0, none⟩)) := q4 rfl; subst e4; obtain ⟨v11, t11, q11⟩ := hdep 5 rfl _ 11 rfl rfl; have e11 : v11 = (.agg #[.int .i64 (N : Nat), .map (some y.m2)]) := q11 rfl; subst e11; have e9 : L 7 = true := hdl 7 rfl; have e8 : L 5 = true := hdl 5 rfl; have hS : StLf W0 N (L 2) (L 5) (L 6) (L 7) (L 8) (L 9) y wx := HSt.out; rw [hLi, e9, e8] at hS; obtain ⟨d0, d1, f0, f1⟩ := blk2 (show wx.heap[y.g4]? = some (.cells #[.int .i64 0, .map none] 230 (0, 0)) from (hS.b4 rfl).2); have h8 := hS.st4
      have HX : Hid (StLf W0 N (L 2) (L 5) (L 6) (L 7) (L 8) true y ((wx.setCell ⟨y.g4, 0, none⟩ (.int .i64 (N : Nat))).setCell ⟨y.g4, 1, none⟩ (.map (some y.m2)))) := by
        rw [e9, e8]; exact h8
      clear hS h8; clear hold hdep hdl hcl; go_simp; obtain ⟨Z9, hZ9⟩ : ∃ Z, Z = ((wx.setCell ⟨y.g4, 0, none⟩ (.int .i64 (N : Nat))).setCell ⟨y.g4, 1, none⟩ (.map (some y.m2))) := ⟨_, rfl⟩; rw [← hZ9] at HX ⊢; clear hZ9; refine hK.out (.bool false) _ y HX.out trivial ?_; intro j hj hl
      rcases j with _ | _ | _ | _ | _ | _ | _ | _ | _ | _ | j
      · exact ⟨rfl, fun u h => h⟩
      · exact ⟨rfl, fun u h => h⟩
      · exact ⟨rfl, fun u h => h⟩
      · exact ⟨rfl, fun u h => h⟩
      · exact ⟨rfl, fun u h => h⟩
      · exact ⟨rfl, fun u h => h⟩
      · exact ⟨rfl, fun u h => h⟩
      · exact ⟨rfl, fun u h => h⟩
      · exact ⟨rfl, fun u h => h⟩
      · exact Bool.noConfusion (hLi.symm.trans hj)
      · exact ⟨rfl, fun u h => h⟩
  · intro L y a wx hall hSt hsz hdf hold hgot
    have e2 : L 2 = true := hall 2 (Nat.le_of_ble_eq_true rfl); have e5 : L 5 = true := hall 5 (Nat.le_of_ble_eq_true rfl); have e6 : L 6 = true := hall 6 (Nat.le_of_ble_eq_true rfl); have e7 : L 7 = true := hall 7 (Nat.le_of_ble_eq_true rfl); have e8 : L 8 = true := hall 8 (Nat.le_of_ble_eq_true rfl); have e9 : L 9 = true := hall 9 (Nat.le_of_ble_eq_true rfl); have hS : StLf W0 N (L 2) (L 5) (L 6) (L 7) (L 8) (L 9) y wx := hSt; rw [e2, e5, e6, e7, e8, e9] at hS; obtain ⟨v3, t3, q3⟩ := hgot 6 _ 3 rfl rfl; have ev3 : v3 = .pointer (some ⟨y.g3, 0, none⟩) := q3 rfl; subst ev3; obtain ⟨v4, t4, q4⟩ := hgot 7 _ 4 rfl rfl; have ev4 : v4 = .pointer (some ⟨y.g4, 0, none⟩) := q4 rfl; subst ev4; obtain ⟨g3, g4, m1, m2⟩ := y; have HS : Hid (StLf W0 N true true true true true true ⟨g3, g4, m1, m2⟩ wx) := hS; obtain ⟨tm, df⟩ := a; (obtain ⟨ys, zs, hys, hzs, htm, rfl⟩ := frame_two 3 2 1 6 5 6 12 rfl rfl rfl (by kernel_rfl) (Nat.le_of_ble_eq_true rfl) ⟨hsz, hdf, hold⟩); obtain ⟨x3, x4, rfl⟩ := rowH2 ys hys; obtain ⟨x6, x7, x8, x9, x10, x11, rfl⟩ := rowH6 zs hzs; simp only [List.take_succ_cons, List.take_zero, List.drop_succ_cons, List.drop_zero, List.cons_append, List.nil_append] at htm; subst htm; obtain rfl : x3 = _ := someInjM t3; obtain rfl : x4 = _ := someInjM t4; clear hS hSt hys hzs hold hgot hall hsz hdf e2 e5 e6 e7 e8 e9 t3 t4 q3 q4; (have hmf : ∀ (fn : Fn) (first cap : Array Value) (w : World), (Instr.makeFunc fn first cap).run Tryz.prog w = .ok (.func fn first cap) w := fun _ _ _ _ => rfl); have hq0 := below_keep HS.out.below HQ0.out; have hq1 := below_keep HS.out.below HQ1.out; obtain ⟨W2, hW2⟩ : ∃ W, wx.alloc (.cells #[.func (.func 171) #[] #[.pointer (some ⟨w.heap.size, 0, none⟩)]] 160 (0, 0)) = W := ⟨_, rfl⟩; (have hb2 : Below wx.heap.size wx W2 := by rw [← hW2]; exact below_more (Below.refl _ _) _); (have hqn : W2.heap[wx.heap.size]? = some (.cells #[.func (.func 171) #[] #[.pointer (some ⟨w.heap.size, 0, none⟩)]] 160 (0, 0)) := by rw [← hW2]; exact blk_new _ _); have hb3 : Below w.heap.size w W2 := HB0.out.trans ((below_join HS.out.below hb2).mono HB0.out.size); have HX : Hid (Below w.heap.size w W2 ∧ W2.heap[w.heap.size + 1]? = some (.cells #[.int .i64 0, .int .i64 0] 30 (0, 0))) := ⟨hb3, below_keep hb2 hq1⟩; have hz0 := HB0.out.size; (have HLs : Hid (∀ o, Calls Tryz.prog 172 #[.pointer (some ⟨w.heap.size, 0, none⟩), .pointer (some ⟨g3, 0, none⟩), .pointer (some ⟨wx.heap.size, 0, none⟩), .pointer (some ⟨g4, 0, none⟩)] (W2.alloc o) fun e w' => LsEnd (lsF N s) e ∧ Kept (fun b => b ≠ m1 ∧ b ≠ m2) (W2.alloc o) w') := fun o => lists2_any N HFP.out.2.2.2.2 s w (W2.alloc o) af ap cf cp w.heap.size g3 g4 wx.heap.size m1 m2 HFP.out.1 HFP.out.2.1 HFP.out.2.2.1 HFP.out.2.2.2.1 (below_more hb3 _) (by have := (HS.out.k1 rfl).2; show _ ≤ m1; have h9 : W0.heap.size ≤ m1 := this; omega) (by have h9 : W0.heap.size ≤ m2 := (HS.out.k2 rfl).2; omega) (HS.out.nm rfl rfl) (alloc_keep (below_keep hb2 hq0) _) (alloc_keep (below_keep hb2 (HS.out.b3 rfl).2) _) (alloc_keep (below_keep hb2 (HS.out.b4 rfl).2) _) (alloc_keep hqn _) (((HS.out.k1 rfl).1.up hb2).up (below_more (Below.refl _ _) _)) (((HS.out.k2 rfl).1.up hb2).up (below_more (Below.refl _ _) _))); (have HMm : Hid (W0.heap.size ≤ m1 ∧ W0.heap.size ≤ m2 ∧ m1 < W2.heap.size ∧ m2 < W2.heap.size) := ⟨(HS.out.k1 rfl).2, (HS.out.k2 rfl).2, by have := (HS.out.k1 rfl).1.lt; have := hb2.size; show m1 < _; have h9 : m1 < wx.heap.size := (HS.out.k1 rfl).1.lt; omega, by have h9 : m2 < wx.heap.size := (HS.out.k2 rfl).1.lt; have := hb2.size; omega⟩); obtain ⟨k1, k2, k3, k4⟩ := blk2 (below_keep hb2 hq1); clear hq0 hq1 hb2 hb3 hqn
    rcases hls : lsF N s with _ | p
    · have HCd : Hid (lscode N s = (0, 0)) := by show _ = _; unfold lscode; rw [hls]
      rw [hls] at HLs; clear hls
      go_wp2_with (first
        | (go_at_call 45
           (refine (caught_ok 172 _ _ (fun w1 => Kept (fun b => b ≠ m1 ∧ b ≠ m2) W2 w1) (lists2_in _) ?_).mono ?_)
           · refine (HLs.out _).mono ?_
             rintro e w1 ⟨he, hk⟩; (exact ⟨he, (hk.block _ (by simp) ⟨by have := HMm.out; omega, by have := HMm.out; omega⟩).trans (blk_new _ _), ((Kept.refl _ _).alloc _).trans hk⟩)
           rintro e w2 ⟨rfl, w1, hk1, hk2⟩; (have hk3 : Below w.heap.size w w2 ∧ w2.heap[w.heap.size + 1]? = some (.cells #[.int .i64 0, .int .i64 0] 30 (0, 0)) := lf_end HX.out.1 HX.out.2 (by have := HMm.out; omega) (by have := HMm.out; omega) (by have := lt_of_block HX.out.2; omega) (by have := HMm.out; omega) (by have := HMm.out; omega) hk1 hk2); have HX3 : Hid (Below w.heap.size w w2 ∧ w2.heap[w.heap.size + 1]? = some (.cells #[.int .i64 0, .int .i64 0] 30 (0, 0))) := hk3; clear hk1 hk2 hk3 k1 k2 k3 k4
           obtain ⟨k1, k2, k3, k4⟩ := blk2 HX3.out.2)
        | fail)
      have f2 := set2 HX3.out.2 (.int .i64 0) (.int .i64 0); (have b2 := (HX3.out.1.setCell (p := ⟨w.heap.size + 1, 0, none⟩) (by simp) (.int .i64 0)).setCell (p := ⟨w.heap.size + 1, 1, none⟩) (by simp) (.int .i64 0)); generalize World.setCell _ _ _ = F at f2 b2 ⊢; clear k1 k2 k3 k4; obtain ⟨k1, k2, -⟩ := blk2 f2; (exact bodyPost_ret (v := .agg #[.int .i64 0, .int .i64 0]) (by simp [results, Tryz.results117, go_sem, k1, k2]) rfl ⟨by rw [HCd.out], b2⟩)
    · obtain ⟨cc, aa⟩ := p
      (have HCd : Hid (lscode N s = (cc, (aa : Int))) := by show _ = _; unfold lscode; rw [hls]); rw [hls] at HLs; clear hls
      go_wp2_with (first
        | (go_at_call 45
           (refine (caught_bad 172 _ _ (fun w1 => Kept (fun b => b ≠ m1 ∧ b ≠ m2) W2 w1) cc aa (lists2_in _) ?_).mono ?_)
           · refine (HLs.out _).mono ?_
             rintro e w1 ⟨he, hk⟩; (exact ⟨he, (hk.block _ (by simp) ⟨by have := HMm.out; omega, by have := HMm.out; omega⟩).trans (blk_new _ _), ((Kept.refl _ _).alloc _).trans hk⟩)
           rintro e w2 ⟨rfl, w1, hk1, hk2⟩; (have hk3 : Below w.heap.size w w2 ∧ w2.heap[w.heap.size + 1]? = some (.cells #[.int .i64 0, .int .i64 0] 30 (0, 0)) := lf_end HX.out.1 HX.out.2 (by have := HMm.out; omega) (by have := HMm.out; omega) (by have := lt_of_block HX.out.2; omega) (by have := HMm.out; omega) (by have := HMm.out; omega) hk1 hk2); have HX3 : Hid (Below w.heap.size w w2 ∧ w2.heap[w.heap.size + 1]? = some (.cells #[.int .i64 0, .int .i64 0] 30 (0, 0))) := hk3; clear hk1 hk2 hk3 k1 k2 k3 k4
           obtain ⟨k1, k2, k3, k4⟩ := blk2 HX3.out.2)
        | fail)
      have f2 := set2 HX3.out.2 (.int .i64 cc) (.int .i64 aa); (have b2 := (HX3.out.1.setCell (p := ⟨w.heap.size + 1, 0, none⟩) (by simp) (.int .i64 cc)).setCell (p := ⟨w.heap.size + 1, 1, none⟩) (by simp) (.int .i64 aa)); generalize World.setCell _ _ _ = F at f2 b2 ⊢; clear k1 k2 k3 k4; obtain ⟨k1, k2, -⟩ := blk2 f2; (exact bodyPost_ret (v := .agg #[.int .i64 cc, .int .i64 aa]) (by simp [results, Tryz.results117, go_sem, k1, k2]) rfl ⟨by rw [HCd.out], b2⟩)
end Go.Proofs.YtpiaeapgjljjhaaGreat
