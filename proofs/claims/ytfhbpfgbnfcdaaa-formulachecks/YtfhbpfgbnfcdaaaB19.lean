/- Texts of one proof, one behind the other: Read1. -/
import Derived.Test.YtfhbpfgbnfcdaaaB18
/- Walks: the yardstick's Read. -/
namespace Go.Proofs.Ytfhbpfgbnfcdaaa
open Go.RowKit

theorem climbs_all (t : ByteArray) (ht : t.size ≤ 40000) : ∀ m, Climbs t m
  | 0 => fun _ _ _ _ _ _ _ h => absurd h (Nat.not_lt_zero _)
  | m + 1 => climb_step t ht m (climbs_all t ht m)

theorem climb_any (t : ByteArray) (ht : t.size ≤ 40000) (w : World) :
    Calls Try.prog 50 #[.string t, .int .i64 0, .int .i64 1] w (CPost 1 t t.data.toList w) :=
  climbs_all t ht (t.data.toList.length + 1) 1 0 t.data.toList w (by omega) (by omega) ⟨Nat.zero_le _, by simp⟩ (Nat.lt_succ_self _)

set_option maxHeartbeats 1000000 in
theorem fault_any (c a : Int) (w : World) :
    Calls Try.prog 28 #[.int .i64 c, .int .i64 a] w fun e w' => e = .returned (.agg #[.int .i64 c, .int .i64 a]) ∧ Below w.heap.size w w' := by
  go_enter Try.func28, Try.ntmps28
  go_wp2; (refine bodyPost_ret (v := .agg #[.int .i64 c, .int .i64 a]) (by simp [results, Try.results28, go_sem]) rfl ⟨rfl, (Below.refl _ _).alloc (Nat.le_refl _) _⟩)

theorem tok_end (l : List UInt8) : (tok l).1 = [] ↔ skipB l = [] := by
  constructor
  · intro h
    unfold tok at h; simp only at h
    split at h
    · assumption
    · split at h
      · rename_i k hk
        have hk10 := (signAt_some 10 0 _ k hk).2.1; (obtain ⟨c, m, hc, -⟩ := sg_head k (by omega)); have h : sg k = [] := h; rw [hc] at h; cases h
      · split at h
        · rename_i hn
          have := isNm_bd hn; have h : letters (skipB l) = [] := h; rw [h] at this; simp at this
        · cases h
  · intro h
    simp [tok, h]

theorem Rep.up' {w w' : World} {ok : Nat → Prop} {f : Fm} {v : Value} (h : Rep w ok f v) (hb : Below w.heap.size w w') : Rep w' ok f v :=
  h.move fun b hb1 hb2 => ⟨hb.block b hb1, hb2⟩
theorem Rep.more' {w : World} {ok : Nat → Prop} {f : Fm} {v : Value} (h : Rep w ok f v) (o : Obj) : Rep (w.alloc o) ok f v := h.up' ((Below.refl _ _).alloc (Nat.le_refl _) _)

/-- What is left when two results are set: of a formula's and of a fault's block. -/
theorem two_set {W w : World} {a b : Nat} (hab : a ≠ b) (haW : W.heap.size ≤ a) (hbW : W.heap.size ≤ b) {x0 x1 x2 y0 y1 : Value} {S T : TypeId} (q1 : w.heap[a]? = some (.cells #[x0, x1, x2] S (0, 0))) (q2 : w.heap[b]? = some (.cells #[y0, y1] T (0, 0))) (hB : Below W.heap.size W w) (u0 u1 u2 v0 v1 : Value) :
    (((((w.setCell ⟨a, 0, none⟩ u0).setCell ⟨a, 1, none⟩ u1).setCell ⟨a, 2, none⟩ u2).setCell ⟨b, 0, none⟩ v0).setCell ⟨b, 1, none⟩ v1).heap[a]? = some (.cells #[u0, u1, u2] S (0, 0)) ∧
    (((((w.setCell ⟨a, 0, none⟩ u0).setCell ⟨a, 1, none⟩ u1).setCell ⟨a, 2, none⟩ u2).setCell ⟨b, 0, none⟩ v0).setCell ⟨b, 1, none⟩ v1).heap[b]? = some (.cells #[v0, v1] T (0, 0)) ∧
    Below W.heap.size W (((((w.setCell ⟨a, 0, none⟩ u0).setCell ⟨a, 1, none⟩ u1).setCell ⟨a, 2, none⟩ u2).setCell ⟨b, 0, none⟩ v0).setCell ⟨b, 1, none⟩ v1) ∧
    (∀ k, k ≠ a → k ≠ b → (((((w.setCell ⟨a, 0, none⟩ u0).setCell ⟨a, 1, none⟩ u1).setCell ⟨a, 2, none⟩ u2).setCell ⟨b, 0, none⟩ v0).setCell ⟨b, 1, none⟩ v1).heap[k]? = w.heap[k]?) := by
  refine ⟨?_, ?_, ?_, ?_⟩
  · rw [Below.heap_setCell _ _ _ _ (fun e => hab (by simpa using e)), Below.heap_setCell _ _ _ _ (fun e => hab (by simpa using e))]
    exact set3 q1 _ _ _
  · apply set2
    (rw [Below.heap_setCell _ _ _ _ (fun e => hab (by simpa using e.symm)), Below.heap_setCell _ _ _ _ (fun e => hab (by simpa using e.symm)), Below.heap_setCell _ _ _ _ (fun e => hab (by simpa using e.symm))]); exact q2
  · exact ((((hB.setCell (p := ⟨a, 0, none⟩) haW _).setCell (p := ⟨a, 1, none⟩) haW _).setCell (p := ⟨a, 2, none⟩) haW _).setCell (p := ⟨b, 0, none⟩) hbW _).setCell (p := ⟨b, 1, none⟩) hbW _
  · intro k h1 h2
    rw [Below.heap_setCell _ _ _ _ h2, Below.heap_setCell _ _ _ _ h2, Below.heap_setCell _ _ _ _ h1, Below.heap_setCell _ _ _ _ h1, Below.heap_setCell _ _ _ _ h1]

theorem climb_bad (t : ByteArray) (ht : t.size ≤ 40000) (r : List UInt8) (hx : Ev (mThen · t.data.toList) (.bad r)) (w : World) :
    Calls Try.prog 50 #[.string t, .int .i64 0, .int .i64 1] w fun e w' => Below w.heap.size w w' ∧ ∃ k n ks sl cap a', e = .returned (.tuple #[.agg #[.int .i64 k, .string n, .slice sl (List.length (α := Fm) ks) cap], .int .i64 0, .int .i64 (a' : Nat)]) ∧ At t a' r := by
  refine (climb_any t ht w).mono ?_; rintro e w' ⟨hb, h⟩; refine ⟨hb, ?_⟩; have hx' : Ev (tgt 1 · t.data.toList) (.bad r) := hx
  rcases h with ⟨f, r', v, a', r2, hev, -⟩ | ⟨r', g, v, a', hev, rfl, ha, hg⟩
  · cases hev.unique hx'
  · obtain rfl : r' = r := Res.bad.inj (hev.unique hx')
    obtain ⟨k, n, ks⟩ := g; obtain ⟨sl, cap, rfl⟩ := slice_shape hg; exact ⟨k, n, ks, sl, cap, a', rfl, ha⟩
theorem climb_ok (t : ByteArray) (ht : t.size ≤ 40000) (k : Int) (n : ByteArray) (ks : List Fm) (r : List UInt8) (hx : Ev (mThen · t.data.toList) (.ok (.mk k n ks) r)) (w : World) :
    Calls Try.prog 50 #[.string t, .int .i64 0, .int .i64 1] w fun e w' => Below w.heap.size w w' ∧ ∃ sl cap a' r', e = .returned (.tuple #[.agg #[.int .i64 k, .string n, .slice sl ks.length cap], .int .i64 (a' : Nat), .int .i64 (-1)]) ∧ At t a' r' ∧ skipB r' = skipB r ∧ Rep w' (w.heap.size ≤ ·) (.mk k n ks) (.agg #[.int .i64 k, .string n, .slice sl ks.length cap]) := by
  refine (climb_any t ht w).mono ?_; rintro e w' ⟨hb, h⟩; refine ⟨hb, ?_⟩; have hx' : Ev (tgt 1 · t.data.toList) (.ok (.mk k n ks) r) := hx
  rcases h with ⟨f, r', v, a', r2, hev, rfl, hrep, ha, hs, -⟩ | ⟨r', g, v, a', hev, -⟩
  · obtain ⟨rfl, rfl⟩ := Res.ok.inj (hev.unique hx')
    obtain ⟨sl, cap, rfl⟩ := slice_shape hrep; exact ⟨sl, cap, a', r2, rfl, ha, hs, hrep⟩
  · cases hev.unique hx'

set_option maxHeartbeats 1000000 in
theorem read_bad1 (t : ByteArray) (ht : t.size ≤ 20000) (w : World) (r : List UInt8) (hx : Ev (mThen · t.data.toList) (.bad r)) :
    Calls Try.prog 18 #[.string t] w fun e w' => e = .returned (.tuple #[.agg #[.int .i64 0, .string ⟨#[]⟩, .slice none 0 0], .agg #[.int .i64 1, .int .i64 ((t.size - r.length : Nat) : Int)]]) ∧ Below w.heap.size w w' := by
  (have h3 : (t.size : Int) ≤ 20000 := by omega); have HX : Hid (Ev (mThen · t.data.toList) (.bad r)) := hx; clear hx
  go_enter Try.func18, Try.ntmps18
  go_wp2_with (first
    | (go_at_call 50
       (refine (climb_bad t (by omega) r HX.out _).mono ?_); rintro e w1 ⟨hb1, k, n, ks, sl, cap, a', rfl, ha⟩; have HP : Hid (a' = t.size - r.length) := ha.pos; (have hle : (0 : Int) ≤ (a' : Int) := by omega); clear ha; have q1 := below_keep hb1 (alloc_keep (blk_new w _) _); have q2 := below_keep hb1 (blk_new (w.alloc _) _); (rw [show (w.alloc _).heap.size = w.heap.size + 1 by simp] at q2)
       have B1 := below_join (below_more (below_more (Below.refl _ w) _) _) hb1)
    | (go_at_call 28
       refine (fault_any _ _ _).mono ?_; rintro e w2 ⟨rfl, hb2⟩; have p1 := below_keep hb2 (alloc_keep q1 _); have p2 := below_keep hb2 (alloc_keep q2 _); have B2 := below_join (below_more B1 _) hb2; obtain ⟨k1, k2, k3, k4, k5, k6⟩ := blk3 p1
       obtain ⟨g1, g2, g3, g4⟩ := blk2 p2)
    | fail)
  obtain ⟨x1, x2, x3, -⟩ := two_set (Nat.ne_of_lt (Nat.lt_succ_self _)) (Nat.le_refl _) (Nat.le_succ _) p1 p2 B2 (.int .i64 0) (.string ⟨#[]⟩) (.slice none 0 0) (.int .i64 1) (.int .i64 a'); generalize World.setCell _ _ _ = F at x1 x2 x3 ⊢; clear k1 k2 k3 k4 k5 k6 g1 g2 g3 g4; obtain ⟨k1, k2, k3, -⟩ := blk3 x1; obtain ⟨g1, g2, -⟩ := blk2 x2; (refine bodyPost_ret (v := .tuple #[.agg #[.int .i64 0, .string ⟨#[]⟩, .slice none 0 0], .agg #[.int .i64 1, .int .i64 a']]) (by simp [results, Try.results18, go_sem, k1, k2, k3, g1, g2]) rfl ⟨?_, x3⟩); rw [HP.out]

set_option maxHeartbeats 1000000 in
theorem read_bad2 (t : ByteArray) (ht : t.size ≤ 20000) (w : World) (f : Fm) (r : List UInt8) (hx : Ev (mThen · t.data.toList) (.ok f r)) (hr : skipB r ≠ []) :
    Calls Try.prog 18 #[.string t] w fun e w' => e = .returned (.tuple #[.agg #[.int .i64 0, .string ⟨#[]⟩, .slice none 0 0], .agg #[.int .i64 1, .int .i64 ((t.size - (skipB r).length : Nat) : Int)]]) ∧ Below w.heap.size w w' := by
  (have h3 : (t.size : Int) ≤ 20000 := by omega); obtain ⟨k, n, ks⟩ := f; have HX : Hid (Ev (mThen · t.data.toList) (.ok (.mk k n ks) r)) := hx; have HR : Hid (skipB r ≠ []) := hr; clear hx hr
  go_enter Try.func18, Try.ntmps18
  go_wp2_with (first
    | (go_at_call 50
       (refine (climb_ok t (by omega) k n ks r HX.out _).mono ?_); rintro e w1 ⟨hb1, sl, cap, a', r', rfl, ha, hsk, -⟩; have q1 := below_keep hb1 (alloc_keep (blk_new w _) _); have q2 := below_keep hb1 (blk_new (w.alloc _) _); (rw [show (w.alloc _).heap.size = w.heap.size + 1 by simp] at q2); have B1 := below_join (below_more (below_more (Below.refl _ w) _) _) hb1; have HA : Hid (At t a' r' ∧ skipB r' = skipB r) := ⟨ha, hsk⟩
       clear ha hsk)
    | (go_at_call 51
       (refine (token_any t (by omega) a' r' HA.out.1 _).mono ?_); rintro e w2 ⟨a1, a2, rfl, h1, -, hb2⟩; (have HP : Hid (a1 = t.size - (skipB r).length) := by rw [tok_at, HA.out.2] at h1; exact h1.pos)
       have hne : ((⟨(tok r').1.toArray⟩ : ByteArray).toList == []) = false := by
         rw [ByteArray.toList_eq, beq_eq_false_iff_ne]; intro e; have := (tok_end r').1 e; rw [HA.out.2] at this; exact HR.out this
       have hne2 : ¬ (tok r').1 = [] := fun e => by
         have := (tok_end r').1 e; rw [HA.out.2] at this; exact HR.out this
       (have hne3 : (!(tok r').1.isEmpty) = true := by simpa using hne2); clear h1 hne hne2; have p1 := below_keep hb2 (alloc_keep q1 _); have p2 := below_keep hb2 (alloc_keep q2 _)
       have B2 := below_join (below_more B1 _) hb2)
    | (go_at_call 28
       refine (fault_any _ _ _).mono ?_; rintro e w3 ⟨rfl, hb3⟩; have s1 := below_keep hb3 p1; have s2 := below_keep hb3 p2; have B3 := below_join B2 hb3; obtain ⟨k1, k2, k3, k4, k5, k6⟩ := blk3 s1
       obtain ⟨g1, g2, g3, g4⟩ := blk2 s2)
    | fail)
  obtain ⟨x1, x2, x3, -⟩ := two_set (Nat.ne_of_lt (Nat.lt_succ_self _)) (Nat.le_refl _) (Nat.le_succ _) s1 s2 B3 (.int .i64 0) (.string ⟨#[]⟩) (.slice none 0 0) (.int .i64 1) (.int .i64 a1); generalize World.setCell _ _ _ = F at x1 x2 x3 ⊢; clear k1 k2 k3 k4 k5 k6 g1 g2 g3 g4; obtain ⟨k1, k2, k3, -⟩ := blk3 x1; obtain ⟨g1, g2, -⟩ := blk2 x2; (refine bodyPost_ret (v := .tuple #[.agg #[.int .i64 0, .string ⟨#[]⟩, .slice none 0 0], .agg #[.int .i64 1, .int .i64 a1]]) (by simp [results, Try.results18, go_sem, k1, k2, k3, g1, g2]) rfl ⟨?_, x3⟩); rw [HP.out]

set_option maxHeartbeats 1000000 in
theorem read_bad3 (t : ByteArray) (ht : t.size ≤ 20000) (w : World) (f : Fm) (r : List UInt8) (hx : Ev (mThen · t.data.toList) (.ok f r)) (hr : skipB r = []) (hf : 200 < f.size) :
    Calls Try.prog 18 #[.string t] w fun e w' => e = .returned (.tuple #[.agg #[.int .i64 0, .string ⟨#[]⟩, .slice none 0 0], .agg #[.int .i64 2, .int .i64 0]]) ∧ Below w.heap.size w w' := by
  (have h3 : (t.size : Int) ≤ 20000 := by omega); obtain ⟨k, n, ks⟩ := f; have HX : Hid (Ev (mThen · t.data.toList) (.ok (.mk k n ks) r)) := hx; have HR : Hid (skipB r = []) := hr; (have hwl : 200 < (walkL (.mk k n ks) 201).length := by rw [walk_len]; omega); have hwl2 := walkL_le (.mk k n ks) 201; clear hx hr; generalize hW : walkL (.mk k n ks) 201 = gs at *; have HW : Hid (walkL (.mk k n ks) 201 = gs) := hW; clear hW hf; (have hwI : (200 : Int) < (gs.length : Int) := by omega); (have hwJ : (gs.length : Int) ≤ 202 := by omega)
  go_enter Try.func18, Try.ntmps18
  go_wp2_with (first
    | (go_at_call 50
       (refine (climb_ok t (by omega) k n ks r HX.out _).mono ?_); rintro e w1 ⟨hb1, sl, cap, a', r', rfl, ha, hsk, hrep⟩; have q1 := below_keep hb1 (alloc_keep (blk_new w _) _); have q2 := below_keep hb1 (blk_new (w.alloc _) _); (rw [show (w.alloc _).heap.size = w.heap.size + 1 by simp] at q2); have B1 := below_join (below_more (below_more (Below.refl _ w) _) _) hb1; have HA : Hid (At t a' r' ∧ skipB r' = skipB r) := ⟨ha, hsk⟩; have R1 := hrep.all.more (.cells #[.int .i64 k, .string n, .slice sl ks.length cap] 24 (0, 0))
       clear ha hsk hrep)
    | (go_at_call 51
       (refine (token_any t (by omega) a' r' HA.out.1 _).mono ?_); rintro e w2 ⟨a1, a2, rfl, -, -, hb2⟩; have hne : (tok r').1 = [] := (tok_end r').2 (HA.out.2.trans HR.out); rw [hne]; have p1 := below_keep hb2 (alloc_keep q1 _); have p2 := below_keep hb2 (alloc_keep q2 _); have p3 := below_keep hb2 (blk_new _ _); have R2 := R1.up hb2; obtain ⟨m1, m2, m3, -⟩ := blk3 p3
       have B2 := below_join (below_more B1 _) hb2)
    | (go_at_call 30
       (refine (walk_any (.mk k n ks) _ 201 _ (by omega) R2).mono ?_); rintro e w3 ⟨u, rfl, hlo, hb3⟩; rw [HW.out] at hlo; obtain ⟨bg, cg, cs, rfl, -, -⟩ := hlo; have s1 := below_keep hb3 p1; have s2 := below_keep hb3 p2
       have B3 := below_join B2 hb3)
    | (go_at_call 28
       refine (fault_any _ _ _).mono ?_; rintro e w4 ⟨rfl, hb4⟩; have o1 := below_keep hb4 s1; have o2 := below_keep hb4 s2; have B4 := below_join B3 hb4; obtain ⟨k1, k2, k3, k4, k5, k6⟩ := blk3 o1
       obtain ⟨g1, g2, g3, g4⟩ := blk2 o2)
    | fail)
  obtain ⟨x1, x2, x3, -⟩ := two_set (Nat.ne_of_lt (Nat.lt_succ_self _)) (Nat.le_refl _) (Nat.le_succ _) o1 o2 B4 (.int .i64 0) (.string ⟨#[]⟩) (.slice none 0 0) (.int .i64 2) (.int .i64 0); generalize World.setCell _ _ _ = F at x1 x2 x3 ⊢; clear k1 k2 k3 k4 k5 k6 g1 g2 g3 g4; obtain ⟨k1, k2, k3, -⟩ := blk3 x1; obtain ⟨g1, g2, -⟩ := blk2 x2; (exact bodyPost_ret (v := .tuple #[.agg #[.int .i64 0, .string ⟨#[]⟩, .slice none 0 0], .agg #[.int .i64 2, .int .i64 0]]) (by simp [results, Try.results18, go_sem, k1, k2, k3, g1, g2]) rfl ⟨rfl, x3⟩)

set_option maxHeartbeats 1000000 in
theorem read_fine (t : ByteArray) (ht : t.size ≤ 20000) (w : World) (f : Fm) (r : List UInt8) (hx : Ev (mThen · t.data.toList) (.ok f r)) (hr : skipB r = []) (hf : ¬ 200 < f.size) :
    Calls Try.prog 18 #[.string t] w fun e w' => ∃ v, e = .returned (.tuple #[v, .agg #[.int .i64 0, .int .i64 0]]) ∧ Rep w' (w.heap.size ≤ ·) f v ∧ Below w.heap.size w w' := by
  (have h3 : (t.size : Int) ≤ 20000 := by omega); obtain ⟨k, n, ks⟩ := f; have HX : Hid (Ev (mThen · t.data.toList) (.ok (.mk k n ks) r)) := hx; have HR : Hid (skipB r = []) := hr; (have hwl : (walkL (.mk k n ks) 201).length ≤ 200 := by rw [walk_len]; omega); clear hx hr; generalize hW : walkL (.mk k n ks) 201 = gs at *; have HW : Hid (walkL (.mk k n ks) 201 = gs) := hW; clear hW hf; (have hwI : (gs.length : Int) ≤ 200 := by omega)
  go_enter Try.func18, Try.ntmps18
  go_wp2_with (first
    | (go_at_call 50
       (refine (climb_ok t (by omega) k n ks r HX.out _).mono ?_); rintro e w1 ⟨hb1, sl, cap, a', r', rfl, ha, hsk, hrep⟩; have q1 := below_keep hb1 (alloc_keep (blk_new w _) _); have q2 := below_keep hb1 (blk_new (w.alloc _) _); (rw [show (w.alloc _).heap.size = w.heap.size + 1 by simp] at q2); have B1 := below_join (below_more (below_more (Below.refl _ w) _) _) hb1; have HA : Hid (At t a' r' ∧ skipB r' = skipB r) := ⟨ha, hsk⟩; have R1 := hrep.more' (.cells #[.int .i64 k, .string n, .slice sl ks.length cap] 24 (0, 0))
       clear ha hsk hrep)
    | (go_at_call 51
       (refine (token_any t (by omega) a' r' HA.out.1 _).mono ?_); rintro e w2 ⟨a1, a2, rfl, -, -, hb2⟩; have hne : (tok r').1 = [] := (tok_end r').2 (HA.out.2.trans HR.out); rw [hne]; have p1 := below_keep hb2 (alloc_keep q1 _); have p2 := below_keep hb2 (alloc_keep q2 _); have p3 := below_keep hb2 (blk_new _ _); have R2 := R1.up' hb2; obtain ⟨m1, m2, m3, -⟩ := blk3 p3
       have B2 := below_join (below_more B1 _) hb2)
    | (go_at_call 30
       (refine (walk_any (.mk k n ks) _ 201 _ (by omega) R2.all).mono ?_); rintro e w3 ⟨u, rfl, hlo, hb3⟩; rw [HW.out] at hlo; obtain ⟨bg, cg, cs, rfl, -, -⟩ := hlo; have s1 := below_keep hb3 p1; have s2 := below_keep hb3 p2; have s3 := below_keep hb3 p3; have R3 := R2.up' hb3; have B3 := below_join B2 hb3; clear m1 m2 m3; obtain ⟨m1, m2, m3, -⟩ := blk3 s3; obtain ⟨k1, k2, k3, k4, k5, k6⟩ := blk3 s1
       obtain ⟨g1, g2, g3, g4⟩ := blk2 s2)
    | fail)
  obtain ⟨x1, x2, x3, x4⟩ := two_set (Nat.ne_of_lt (Nat.lt_succ_self _)) (Nat.le_refl _) (Nat.le_succ _) s1 s2 B3 (.int .i64 k) (.string n) (.slice sl ks.length cap) (.int .i64 0) (.int .i64 0); (have R4 := R3.move (ok' := (w.heap.size ≤ ·)) fun b _ hb2 => ⟨(x4 b (by simp at hb2; omega) (by simp at hb2; omega)), by simp at hb2; omega⟩); generalize World.setCell _ _ _ = F at x1 x2 x3 R4 ⊢; clear k1 k2 k3 k4 k5 k6 g1 g2 g3 g4; obtain ⟨k1, k2, k3, -⟩ := blk3 x1; obtain ⟨g1, g2, -⟩ := blk2 x2; (exact bodyPost_ret (v := .tuple #[.agg #[.int .i64 k, .string n, .slice sl ks.length cap], .agg #[.int .i64 0, .int .i64 0]]) (by simp [results, Try.results18, go_sem, k1, k2, k3, g1, g2]) rfl ⟨_, rfl, R4, x3⟩)
end Go.Proofs.Ytfhbpfgbnfcdaaa
