/- Texts of one proof, one behind the other: BWA. -/
import Derived.Test.YtffkoiemnchdgafB37
import Derived.Test.YtffkoiemnchdgafB28
/- Walks: Project and Interpolate. -/
namespace Go.Proofs.Ytffkoiemnchdgaf
open Go.RowKit Go.Sort

theorem far2 {W : World} {r x : Nat} (hx : x ≠ r) (u0 u1 : Value) : ((W.setCell ⟨r, 0, none⟩ u0).setCell ⟨r, 1, none⟩ u1).heap[x]? = W.heap[x]? := by
  (rw [Below.heap_setCell _ _ _ _ (by simpa using hx), Below.heap_setCell _ _ _ _ (by simpa using hx)])
theorem below_put2 {w W : World} {r : Nat} (hr : w.heap.size ≤ r) (B : Below w.heap.size w W) (u0 u1 : Value) : Below w.heap.size w ((W.setCell ⟨r, 0, none⟩ u0).setCell ⟨r, 1, none⟩ u1) := (B.setCell (by simpa using hr) _).setCell (by simpa using hr) _
/-- A formula and a fault are put into their blocks. -/
def put5 (W : World) (r q : Nat) (u0 u1 u2 c d : Value) : World := ((((W.setCell ⟨r, 0, none⟩ u0).setCell ⟨r, 1, none⟩ u1).setCell ⟨r, 2, none⟩ u2).setCell ⟨q, 0, none⟩ c).setCell ⟨q, 1, none⟩ d
theorem put5_at {W : World} {r q : Nat} (h : r ≠ q) {z0 z1 z2 y0 y1 : Value} {T T' : TypeId} (hr : W.heap[r]? = some (.cells #[z0, z1, z2] T (0, 0))) (hq : W.heap[q]? = some (.cells #[y0, y1] T' (0, 0))) (u0 u1 u2 c d : Value) : (put5 W r q u0 u1 u2 c d).heap[r]? = some (.cells #[u0, u1, u2] T (0, 0)) ∧ (put5 W r q u0 u1 u2 c d).heap[q]? = some (.cells #[c, d] T' (0, 0)) :=
  ⟨(far2 h _ _).trans (set3 hr _ _ _), set2 ((far3 (Ne.symm h) _ _ _).trans hq) _ _⟩
theorem put5_below {w W : World} {r q : Nat} (hr : w.heap.size ≤ r) (hq : w.heap.size ≤ q) (B : Below w.heap.size w W) (u0 u1 u2 c d : Value) : Below w.heap.size w (put5 W r q u0 u1 u2 c d) := below_put2 hq (below_put3 hr B _ _ _) _ _
theorem Rep.put5 {W : World} {r q : Nat} {P P' : Nat → Prop} {f : Fm} {v : Value} (h : Rep W P f v) (hr : ∀ b, b < W.heap.size → P b → b ≠ r ∧ b ≠ q ∧ P' b) (u0 u1 u2 c d : Value) : Rep (put5 W r q u0 u1 u2 c d) P' f v :=
  h.move fun b hb hp => ⟨(far2 (hr b hb hp).2.1 _ _).trans (far3 (hr b hb hp).1 _ _ _), (hr b hb hp).2.2⟩

theorem tg_zero {fs : List Fm} (h : (tgcode fs).1 = 0) : tgcode fs = (0, 0) := by
  unfold tgcode at h ⊢
  split at h
  · split at h
    · cases h
    · rename_i h1 h2; rw [if_pos h1, if_neg h2]
  · rename_i h1; exact absurd h h1
theorem pfirst_all : ∀ {fs : List Fm}, (pfirst fs).1 = 0 → ∀ f ∈ fs, f.pcode.1 = 0
  | [], _, f, hf => by simp at hf
  | g :: fs, h, f, hf => by
    rw [pfirst] at h
    split at h
    · rename_i hg
      rcases List.mem_cons.1 hf with rfl | hf
      · exact hg
      · exact pfirst_all h f hf
    · rename_i hg; exact absurd h hg
theorem tg_plain {fs : List Fm} (h : (tgcode fs).1 = 0) {f : Fm} (hf : f ∈ fs) : f.pcode.1 = 0 := by
  unfold tgcode at h
  split at h
  · rename_i h1; exact pfirst_all h1 f hf
  · rename_i h1; exact absurd h h1
theorem tg_few {fs : List Fm} (h : (tgcode fs).1 = 0) : (nmsF fs).length ≤ 6 := by
  unfold tgcode at h
  split at h
  · split at h
    · cases h
    · omega
  · rename_i h1; exact absurd h h1
theorem vcode_zero {f : Fm} {l : List (List UInt8)} (h : (vcode f l).1 = 0) : vcode f l = (0, 0) := by
  unfold vcode at h ⊢
  split at h
  · split at h
    · cases h
    · split at h
      · cases h
      · rename_i h1 h2 h3; rw [if_pos h1, if_neg h2, if_neg h3]
  · rename_i h1; exact absurd h h1
set_option maxRecDepth 10000 in
set_option maxHeartbeats 8000000 in
theorem project_bad2 (f : Fm) (l : List (List UInt8)) (v u : Value) (w : World) (hrep : Rep w (fun _ => True) f v) (hu : SL w u l) (ht : (tgcode [f]).1 = 0) (hmx : ∀ t ∈ l, t.length ≤ maxLen) (hc : (vcode f l).1 ≠ 0) :
    Calls Try.prog 11 #[v, u] w fun e w' => e = .returned (.tuple #[.agg #[.int .i64 0, .string ⟨#[]⟩, .slice none 0 0], .agg #[.int .i64 (vcode f l).1, .int .i64 (vcode f l).2]]) ∧ Below w.heap.size w w' := by
  (have hto := fun v W h => together_any [f] (by simp) v W h); (have hli := fun v u W h h' => listFault_any f l hmx v u W h h'); have htc : tgcode [f] = (0, 0) := tg_zero ht; rw [htc] at hto; simp only at hto; generalize vcode f l = vc at *; obtain ⟨c, d⟩ := vc; simp only at hc hli ⊢; generalize tgnames [f] = U at *; (have hcn : (c != 0) = true := by simpa using hc); clear ht htc hmx; obtain ⟨k, n, ks⟩ := f; obtain ⟨sl, cap, rfl⟩ := slice_shape hrep; (have HR : Hid (Rep w (fun _ => True) (.mk k n ks) (.agg #[.int .i64 k, .string n, .slice sl ks.length cap])) := hrep); have HT : Hid (∀ v W, FL W v [.mk k n ks] → Calls Try.prog 39 #[v] W _) := hto; (have HLi : Hid (∀ v u W, Rep W (fun _ => True) (.mk k n ks) v → SL W u l → Calls Try.prog 40 #[v, u] W _) := hli); have HU : Hid (SL w u l) := hu; obtain ⟨adu, cpu, rfl, -⟩ := hu; clear hto hrep hli
  go_enter Try.func11, Try.ntmps11
  go_wp2_with fail; obtain ⟨p0, p1, p2, p3, psz, PB⟩ := chain4 w (.cells #[.int .i64 k, .string n, .slice sl ks.length cap] 24 (0, 0)) (.cells #[.int .i64 0, .string ⟨#[]⟩, .slice none 0 0] 24 (0, 0)) (.cells #[.int .i64 0, .int .i64 0] 29 (0, 0)) (.cells #[.int .i64 k, .string n, .slice sl ks.length cap] 24 (0, 0)); refine (HT.out _ _ (FL.alone p3 (HR.out.up PB))).mono ?_; rintro e w1 ⟨ad, cp, rfl, -, hb1⟩; have HQ0 : Hid (w1.heap[w.heap.size]? = some (.cells #[.int .i64 k, .string n, .slice sl ks.length cap] 24 (0, 0))) := below_keep hb1 p0; have HQ1 : Hid (w1.heap[w.heap.size + 1]? = some (.cells #[.int .i64 0, .string ⟨#[]⟩, .slice none 0 0] 24 (0, 0))) := below_keep hb1 p1; have HQ2 : Hid (w1.heap[w.heap.size + 1 + 1]? = some (.cells #[.int .i64 0, .int .i64 0] 29 (0, 0))) := below_keep hb1 p2; have HB1 : Hid (Below w.heap.size w w1) := below_join PB hb1; clear hb1 p0 p1 p2 p3 psz PB; obtain ⟨e0, e1, e2, -⟩ := blk3 HQ0.out; obtain ⟨a0, a1, a2, z0, z1, z2⟩ := blk3 HQ1.out; obtain ⟨b0, b1, z3, z4⟩ := blk2 HQ2.out; have y0 := lt_of_block HQ0.out; have y1 := lt_of_block HQ1.out; have y2 := lt_of_block HQ2.out; go_wp2_with fail; have hbF := below_more HB1.out (.cells #[.int .i64 0, .int .i64 0] 29 (0, 0)); refine (HLi.out _ _ _ (HR.out.up hbF) (HU.out.up hbF)).mono ?_; rintro e w2 ⟨rfl, hb2⟩; have HP1 : Hid (w2.heap[w.heap.size + 1]? = some (.cells #[.int .i64 0, .string ⟨#[]⟩, .slice none 0 0] 24 (0, 0))) := below_keep hb2 (alloc_keep HQ1.out _); have HP2 : Hid (w2.heap[w.heap.size + 1 + 1]? = some (.cells #[.int .i64 0, .int .i64 0] 29 (0, 0))) := below_keep hb2 (alloc_keep HQ2.out _); have HB2 : Hid (Below w.heap.size w w2) := below_join hbF hb2; clear hb2 hbF e0 e1 e2 a0 a1 a2 z0 z1 z2 b0 b1 z3 z4; obtain ⟨a0, a1, a2, z0, z1, z2⟩ := blk3 HP1.out; obtain ⟨b0, b1, z3, z4⟩ := blk2 HP2.out; have y3 := lt_of_block HP1.out; have y4 := lt_of_block HP2.out; go_wp2_with fail
  go_region
  all_goals
    go_wp2_with fail; (have f5 := put5_at (W := w2) (r := w.heap.size + 1) (q := w.heap.size + 1 + 1) (by omega) HP1.out HP2.out (.int .i64 0) (.string ⟨#[]⟩) (.slice none 0 0) (.int .i64 c) (.int .i64 d)); (have BF := put5_below (w := w) (r := w.heap.size + 1) (q := w.heap.size + 1 + 1) (by omega) (by omega) HB2.out (.int .i64 0) (.string ⟨#[]⟩) (.slice none 0 0) (.int .i64 c) (.int .i64 d)); have g1 : ((put5 w2 (w.heap.size + 1) (w.heap.size + 1 + 1) (.int .i64 0) (.string ⟨#[]⟩) (.slice none 0 0) (.int .i64 c) (.int .i64 d)).alloc (.cells #[.int .i64 c, .int .i64 d] 29 (0, 0))).drew.heap[w.heap.size + 1]? = some _ := (alloc_keep f5.1 _); have g2 : ((put5 w2 (w.heap.size + 1) (w.heap.size + 1 + 1) (.int .i64 0) (.string ⟨#[]⟩) (.slice none 0 0) (.int .i64 c) (.int .i64 d)).alloc (.cells #[.int .i64 c, .int .i64 d] 29 (0, 0))).drew.heap[w.heap.size + 1 + 1]? = some _ := (alloc_keep f5.2 _); have BG : Below w.heap.size w ((put5 w2 (w.heap.size + 1) (w.heap.size + 1 + 1) (.int .i64 0) (.string ⟨#[]⟩) (.slice none 0 0) (.int .i64 c) (.int .i64 d)).alloc (.cells #[.int .i64 c, .int .i64 d] 29 (0, 0))).drew := (below_more BF (.cells #[.int .i64 c, .int .i64 d] 29 (0, 0))).drew; show bodyPost _ _ _ _ _ ((put5 w2 (w.heap.size + 1) (w.heap.size + 1 + 1) (.int .i64 0) (.string ⟨#[]⟩) (.slice none 0 0) (.int .i64 c) (.int .i64 d)).alloc (.cells #[.int .i64 c, .int .i64 d] 29 (0, 0))).drew; generalize ((put5 w2 (w.heap.size + 1) (w.heap.size + 1 + 1) (.int .i64 0) (.string ⟨#[]⟩) (.slice none 0 0) (.int .i64 c) (.int .i64 d)).alloc (.cells #[.int .i64 c, .int .i64 d] 29 (0, 0))).drew = F at g1 g2 BG ⊢; obtain ⟨o0, o1, o2, -⟩ := blk3 g1; obtain ⟨o3, o4, -⟩ := blk2 g2; (exact bodyPost_ret (v := .tuple #[.agg #[.int .i64 0, .string ⟨#[]⟩, .slice none 0 0], .agg #[.int .i64 c, .int .i64 d]]) (by simp [results, Try.results11, go_sem, o0, o1, o2, o3, o4]) rfl ⟨rfl, BG⟩)
set_option maxRecDepth 10000 in
set_option maxHeartbeats 8000000 in
theorem project_ok (f : Fm) (l : List (List UInt8)) (v u : Value) (w : World) (hrep : Rep w (fun _ => True) f v) (hu : SL w u l) (ht : (tgcode [f]).1 = 0) (hmx : ∀ t ∈ l, t.length ≤ maxLen) (hc : (vcode f l).1 = 0) :
    Calls Try.prog 11 #[v, u] w fun e w' => ∃ x, e = .returned (.tuple #[x, .agg #[.int .i64 0, .int .i64 0]]) ∧ Rep w' (fun _ => True) (projF f l) x ∧ Below w.heap.size w w' := by
  (have hto := fun v W h => together_any [f] (by simp) v W h); (have hli := fun v u W h h' => listFault_any f l hmx v u W h h'); have htc : tgcode [f] = (0, 0) := tg_zero ht; rw [htc] at hto; simp only at hto; (have hpj := fun v u W h h' => projected_any f (tg_plain ht (by simp)) l v u W h h'); rw [vcode_zero hc] at hli; simp only at hli; generalize tgnames [f] = U at *; generalize projF f l = D at *; clear ht htc hmx hc; obtain ⟨k, n, ks⟩ := f; obtain ⟨sl, cap, rfl⟩ := slice_shape hrep; (have HR : Hid (Rep w (fun _ => True) (.mk k n ks) (.agg #[.int .i64 k, .string n, .slice sl ks.length cap])) := hrep); have HT : Hid (∀ v W, FL W v [.mk k n ks] → Calls Try.prog 39 #[v] W _) := hto; (have HLi : Hid (∀ v u W, Rep W (fun _ => True) (.mk k n ks) v → SL W u l → Calls Try.prog 40 #[v, u] W _) := hli); (have HPj : Hid (∀ v u W, Rep W (fun _ => True) (.mk k n ks) v → SL W u l → Calls Try.prog 41 #[v, u] W _) := hpj); have HU : Hid (SL w u l) := hu; obtain ⟨adu, cpu, rfl, -⟩ := hu; clear hto hrep hli hpj
  go_enter Try.func11, Try.ntmps11
  go_wp2_with fail; obtain ⟨p0, p1, p2, p3, psz, PB⟩ := chain4 w (.cells #[.int .i64 k, .string n, .slice sl ks.length cap] 24 (0, 0)) (.cells #[.int .i64 0, .string ⟨#[]⟩, .slice none 0 0] 24 (0, 0)) (.cells #[.int .i64 0, .int .i64 0] 29 (0, 0)) (.cells #[.int .i64 k, .string n, .slice sl ks.length cap] 24 (0, 0)); refine (HT.out _ _ (FL.alone p3 (HR.out.up PB))).mono ?_; rintro e w1 ⟨ad, cp, rfl, -, hb1⟩; have HQ0 : Hid (w1.heap[w.heap.size]? = some (.cells #[.int .i64 k, .string n, .slice sl ks.length cap] 24 (0, 0))) := below_keep hb1 p0; have HQ1 : Hid (w1.heap[w.heap.size + 1]? = some (.cells #[.int .i64 0, .string ⟨#[]⟩, .slice none 0 0] 24 (0, 0))) := below_keep hb1 p1; have HQ2 : Hid (w1.heap[w.heap.size + 1 + 1]? = some (.cells #[.int .i64 0, .int .i64 0] 29 (0, 0))) := below_keep hb1 p2; have HB1 : Hid (Below w.heap.size w w1) := below_join PB hb1; clear hb1 p0 p1 p2 p3 psz PB; obtain ⟨e0, e1, e2, -⟩ := blk3 HQ0.out; obtain ⟨a0, a1, a2, z0, z1, z2⟩ := blk3 HQ1.out; obtain ⟨b0, b1, z3, z4⟩ := blk2 HQ2.out; have y0 := lt_of_block HQ0.out; have y1 := lt_of_block HQ1.out; have y2 := lt_of_block HQ2.out; go_wp2_with fail; have hbF := below_more HB1.out (.cells #[.int .i64 0, .int .i64 0] 29 (0, 0)); refine (HLi.out _ _ _ (HR.out.up hbF) (HU.out.up hbF)).mono ?_; rintro e w2 ⟨rfl, hb2⟩; have HP0 : Hid (w2.heap[w.heap.size]? = some (.cells #[.int .i64 k, .string n, .slice sl ks.length cap] 24 (0, 0))) := below_keep hb2 (alloc_keep HQ0.out _); have HP1 : Hid (w2.heap[w.heap.size + 1]? = some (.cells #[.int .i64 0, .string ⟨#[]⟩, .slice none 0 0] 24 (0, 0))) := below_keep hb2 (alloc_keep HQ1.out _); have HP2 : Hid (w2.heap[w.heap.size + 1 + 1]? = some (.cells #[.int .i64 0, .int .i64 0] 29 (0, 0))) := below_keep hb2 (alloc_keep HQ2.out _); have HB2 : Hid (Below w.heap.size w w2) := below_join hbF hb2; clear hb2 hbF e0 e1 e2 a0 a1 a2 z0 z1 z2 b0 b1 z3 z4; obtain ⟨e0, e1, e2, -⟩ := blk3 HP0.out; have y3 := lt_of_block HP1.out; have y4 := lt_of_block HP2.out; have y5 := lt_of_block HP0.out; go_wp2_with fail; have hbG := below_more HB2.out (.cells #[.int .i64 0, .int .i64 0] 29 (0, 0)); refine (HPj.out _ _ _ (HR.out.up hbG) (HU.out.up hbG)).mono ?_; rintro e w3 ⟨x, rfl, hx, hb3⟩; have HR1 : Hid (w3.heap[w.heap.size + 1]? = some (.cells #[.int .i64 0, .string ⟨#[]⟩, .slice none 0 0] 24 (0, 0))) := below_keep hb3 (alloc_keep HP1.out _); have HR2 : Hid (w3.heap[w.heap.size + 1 + 1]? = some (.cells #[.int .i64 0, .int .i64 0] 29 (0, 0))) := below_keep hb3 (alloc_keep HP2.out _); have HB3 : Hid (Below w.heap.size w w3) := below_join hbG hb3
  rcases hE : D with ⟨k5, n5, ks5⟩
  rw [hE] at hx; obtain ⟨sl5, cp5, rfl⟩ := slice_shape hx; (have HX : Hid (Rep w3 (fun c => w.heap.size + 1 + 1 < c) (.mk k5 n5 ks5) (.agg #[.int .i64 k5, .string n5, .slice sl5 ks5.length cp5])) := hx.move fun b _ hb => ⟨rfl, by simp at hb; omega⟩); clear hb3 hbG hx e0 e1 e2; obtain ⟨a0, a1, a2, z0, z1, z2⟩ := blk3 HR1.out; obtain ⟨b0, b1, z3, z4⟩ := blk2 HR2.out; have y6 := lt_of_block HR1.out; have y7 := lt_of_block HR2.out; go_wp2_with fail; (have f5 := put5_at (W := w3) (r := w.heap.size + 1) (q := w.heap.size + 1 + 1) (by omega) HR1.out HR2.out (.int .i64 k5) (.string n5) (.slice sl5 ks5.length cp5) (.int .i64 0) (.int .i64 0)); (have BF := put5_below (w := w) (r := w.heap.size + 1) (q := w.heap.size + 1 + 1) (by omega) (by omega) HB3.out (.int .i64 k5) (.string n5) (.slice sl5 ks5.length cp5) (.int .i64 0) (.int .i64 0)); (have RX := HX.out.put5 (r := w.heap.size + 1) (q := w.heap.size + 1 + 1) (P' := fun _ => True) (fun b _ hb => ⟨by omega, by omega, trivial⟩) (.int .i64 k5) (.string n5) (.slice sl5 ks5.length cp5) (.int .i64 0) (.int .i64 0)); have g1 : (put5 w3 (w.heap.size + 1) (w.heap.size + 1 + 1) (.int .i64 k5) (.string n5) (.slice sl5 ks5.length cp5) (.int .i64 0) (.int .i64 0)).heap[w.heap.size + 1]? = some _ := f5.1; have g2 : (put5 w3 (w.heap.size + 1) (w.heap.size + 1 + 1) (.int .i64 k5) (.string n5) (.slice sl5 ks5.length cp5) (.int .i64 0) (.int .i64 0)).heap[w.heap.size + 1 + 1]? = some _ := f5.2; have BG : Below w.heap.size w (put5 w3 (w.heap.size + 1) (w.heap.size + 1 + 1) (.int .i64 k5) (.string n5) (.slice sl5 ks5.length cp5) (.int .i64 0) (.int .i64 0)) := BF; show bodyPost _ _ _ _ _ (put5 w3 (w.heap.size + 1) (w.heap.size + 1 + 1) (.int .i64 k5) (.string n5) (.slice sl5 ks5.length cp5) (.int .i64 0) (.int .i64 0)); generalize (put5 w3 (w.heap.size + 1) (w.heap.size + 1 + 1) (.int .i64 k5) (.string n5) (.slice sl5 ks5.length cp5) (.int .i64 0) (.int .i64 0)) = F at g1 g2 BG RX ⊢; obtain ⟨o0, o1, o2, -⟩ := blk3 g1; obtain ⟨o3, o4, -⟩ := blk2 g2; (exact bodyPost_ret (v := .tuple #[.agg #[.int .i64 k5, .string n5, .slice sl5 ks5.length cp5], .agg #[.int .i64 0, .int .i64 0]]) (by simp [results, Try.results11, go_sem, o0, o1, o2, o3, o4]) rfl ⟨_, rfl, by rw [hE]; exact RX, BG⟩)
end Go.Proofs.Ytffkoiemnchdgaf
