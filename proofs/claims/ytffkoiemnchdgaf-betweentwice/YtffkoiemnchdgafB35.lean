/- Texts of one proof, one behind the other: BW7. -/
import Derived.Test.YtffkoiemnchdgafB34
import Derived.Test.YtffkoiemnchdgafB27
/- Walks: what is asked of rows by between's functions (closures), and listFault. -/
namespace Go.Proofs.Ytffkoiemnchdgaf
open Go.RowKit Go.Sort

/-- A formula in a block of its own. -/
def OkFm (bf : Nat) (f : Fm) (w : World) : Prop := ∃ k n ks sl cp, f = .mk k n ks ∧ w.heap[bf]? = some (.cells #[.int .i64 k, .string n, .slice sl ks.length cp] 24 (0, 0)) ∧ Rep w (fun _ => True) f (.agg #[.int .i64 k, .string n, .slice sl ks.length cp])
theorem OkFm.up {bf : Nat} {f : Fm} {w w' : World} (h : OkFm bf f w) (hb : Below w.heap.size w w') : OkFm bf f w' := by
  obtain ⟨k, n, ks, sl, cp, h1, h2, h3⟩ := h; exact ⟨k, n, ks, sl, cp, h1, below_keep hb h2, h3.up hb⟩
/-- A list of texts in a block of its own. -/
def OkL (bo : Nat) (l : List (List UInt8)) (w : World) : Prop := ∃ ad n cp, w.heap[bo]? = some (.cells #[.slice ad n cp] 25 (0, 0)) ∧ SL w (.slice ad n cp) l
theorem OkL.up {bo : Nat} {l : List (List UInt8)} {w w' : World} (h : OkL bo l w) (hb : Below w.heap.size w w') : OkL bo l w' := by
  obtain ⟨ad, n, cp, h1, h2⟩ := h; exact ⟨ad, n, cp, below_keep hb h1, h2.up hb⟩

def tvL (f : Fm) (l : List (List UInt8)) : Bool := tv (fun t => decide (t ∈ l)) f

theorem proj1_in (cap : Array Value) (w : World) : (callFunc 72 cap).run Try.prog w = .ok (.enter 72 cap) w := by
  simp [go_sem]
set_option maxHeartbeats 1000000 in
theorem asksT (f : Fm) (hp : f.pcode.1 = 0) (bf : Nat) : AskL 1000 72 #[.pointer (some ⟨bf, 0, none⟩)] (tvL f) (OkFm bf f) where
  le := Nat.le_refl _
  up := fun h hb => h.up hb
  ent := fun _ w => proj1_in _ w
  call := fun l v w hok hg hv => by
    obtain ⟨k, n, ks, sl, cp, rfl, hb, hr⟩ := hok; (have HI : Hid (Calls Try.prog 65 #[.agg #[.int .i64 k, .string n, .slice sl ks.length cp], v] w fun e w' => e = .returned (.bool (tvL (.mk k n ks) l)) ∧ Below w.heap.size w w') := isTrueB_any _ hp l hg _ _ w hr hv); obtain ⟨ad, cap, rfl, -⟩ := hv; obtain ⟨a0, a1, a2, -⟩ := blk3 hb; generalize tvL (.mk k n ks) l = bb at *; clear hb hr hp hg; show Calls Try.prog _ #[_, _] w _
    go_enter Try.func72, Try.ntmps72
    go_wp2_with fail; refine HI.out.mono ?_; rintro e w1 ⟨rfl, hb1⟩; go_wp2_with fail; go_ret; exact ⟨rfl, hb1⟩

def OkP (bf bo b9 : Nat) (f : Fm) (os : List (List UInt8)) (w : World) : Prop := OkFm bf f w ∧ OkL bo os w ∧ w.heap[b9]? = some (.cells #[.func (.func 72) #[] #[.pointer (some ⟨bf, 0, none⟩)]] 96 (0, 0))
theorem proj2_in (cap : Array Value) (w : World) : (callFunc 73 cap).run Try.prog w = .ok (.enter 73 cap) w := by
  simp [go_sem]
set_option maxHeartbeats 1000000 in
theorem asksP (f : Fm) (hp : f.pcode.1 = 0) (os : List (List UInt8)) (ho : os.length ≤ 500) (hon : ∀ t ∈ os, isNm t = true) (bf bo b9 : Nat) : AskL 500 73 #[.pointer (some ⟨bo, 0, none⟩), .pointer (some ⟨b9, 0, none⟩)] (fun l => someL (tvL f) os l) (OkP bf bo b9 f os) where
  le := by omega
  up := fun h hb => ⟨h.1.up hb, h.2.1.up hb, below_keep hb h.2.2⟩
  ent := fun _ w => proj2_in _ w
  call := fun l v w hok hg hv => by
    obtain ⟨h1, ⟨ad, n, cp, h2, h3⟩, h4⟩ := hok; (have hgg : GoodL 1000 (l ++ os) := ⟨by have := hg.few; simp; omega, fun t ht => by rcases List.mem_append.1 ht with h | h; exact hg.names t h; exact hon t h⟩); (have HI : Hid (Calls Try.prog 66 #[.slice ad n cp, v, .func (.func 72) #[] #[.pointer (some ⟨bf, 0, none⟩)]] w fun e w' => e = .returned (.bool (someL (tvL f) os l)) ∧ Below w.heap.size w w') := some_all (asksT f hp bf) os l _ _ w hgg h3 hv h1); obtain ⟨adv, capv, rfl, -⟩ := hv; obtain ⟨a0, -⟩ := blk1 h2; obtain ⟨c0, -⟩ := blk1 h4; generalize someL (tvL f) os l = bb at *; clear h1 h2 h3 h4 hp hg hgg ho hon; show Calls Try.prog _ #[_, _, _] w _
    go_enter Try.func73, Try.ntmps73
    go_wp2_with fail; refine HI.out.mono ?_; rintro e w1 ⟨rfl, hb1⟩; go_wp2_with fail; go_ret; exact ⟨rfl, hb1⟩

theorem inter1_in (cap : Array Value) (w : World) : (callFunc 64 cap).run Try.prog w = .ok (.enter 64 cap) w := by
  simp [go_sem]
set_option maxHeartbeats 2000000 in
theorem asksI (f g : Fm) (hp : f.pcode.1 = 0) (hq : g.pcode.1 = 0) (bf bg : Nat) : AskL 1000 64 #[.pointer (some ⟨bf, 0, none⟩), .pointer (some ⟨bg, 0, none⟩)] (fun l => tvL f l && !tvL g l) (fun w => OkFm bf f w ∧ OkFm bg g w) where
  le := Nat.le_refl _
  up := fun h hb => ⟨h.1.up hb, h.2.up hb⟩
  ent := fun _ w => inter1_in _ w
  call := fun l v w hok hg hv => by
    obtain ⟨⟨k, n, ks, sl, cp, rfl, hb, hr⟩, ⟨k2, n2, ks2, sl2, cp2, rfl, hb2, hr2⟩⟩ := hok; (have HI : Hid (Calls Try.prog 65 #[.agg #[.int .i64 k, .string n, .slice sl ks.length cp], v] w fun e w' => e = .returned (.bool (tvL (.mk k n ks) l)) ∧ Below w.heap.size w w') := isTrueB_any _ hp l hg _ _ w hr hv); (have HJ : Hid (∀ w', Below w.heap.size w w' → Calls Try.prog 65 #[.agg #[.int .i64 k2, .string n2, .slice sl2 ks2.length cp2], v] w' fun e w'' => e = .returned (.bool (tvL (.mk k2 n2 ks2) l)) ∧ Below w'.heap.size w' w'') := fun w' h => isTrueB_any _ hq l hg _ _ w' (hr2.up h) (hv.up h)); have HB2 : Hid (w.heap[bg]? = some _) := hb2; obtain ⟨ad, cap, rfl, -⟩ := hv; obtain ⟨a0, a1, a2, -⟩ := blk3 hb; generalize tvL (.mk k n ks) l = bb at *; generalize tvL (.mk k2 n2 ks2) l = cc at *; clear hb hr hp hg hr2 hq hb2; show Calls Try.prog _ #[_, _, _] w _
    go_enter Try.func64, Try.ntmps64
    go_wp2_with fail; refine HI.out.mono ?_; rintro e w1 ⟨rfl, hb1⟩; obtain ⟨c0, c1, c2, -⟩ := blk3 (below_keep hb1 HB2.out); have HB1 : Hid (Below w.heap.size w w1) := hb1; clear hb1 a0 a1 a2
    cases bb
    · go_wp2_with fail
      go_ret; exact ⟨rfl, HB1.out⟩
    · go_wp2_with fail
      refine (HJ.out w1 HB1.out).mono ?_; rintro e w2 ⟨rfl, hb2⟩; have HB2' : Hid (Below w.heap.size w w2) := below_join HB1.out hb2; clear hb2 c0 c1 c2; go_wp2_with fail; go_ret; (exact ⟨by cases cc <;> rfl, HB2'.out⟩)

set_option maxHeartbeats 2000000 in
theorem listFault_any (f : Fm) (l : List (List UInt8)) (hmx : ∀ t ∈ l, t.length ≤ maxLen) (v u : Value) (w : World) (hrep : Rep w (fun _ => True) f v) (hu : SL w u l) :
    Calls Try.prog 40 #[v, u] w fun e w' => e = .returned (.agg #[.int .i64 (vcode f l).1, .int .i64 (vcode f l).2]) ∧ Below w.heap.size w w' := by
  (have hvy := fun v u w h h' => value_any f l hmx v u w h h'); (generalize (decide ((vcode f l).1 = 0) && tv (fun t => decide (t ∈ l)) f) = bb at *); generalize vcode f l = vc at *; obtain ⟨c, d⟩ := vc; simp only at hvy ⊢; obtain ⟨k, n, ks⟩ := f; obtain ⟨sl, cap, rfl⟩ := slice_shape hrep; (have HR : Hid (Rep w (fun _ => True) (.mk k n ks) _) := hrep); have HU : Hid (SL w u l) := hu; (have HY : Hid (∀ v u w, Rep w (fun _ => True) (.mk k n ks) v → SL w u l → Calls Try.prog 68 #[v, u] w fun e w' => e = .returned (.tuple #[.bool bb, .agg #[.int .i64 c, .int .i64 d]]) ∧ Below w.heap.size w w') := hvy); obtain ⟨adL, cpL, rfl, -⟩ := hu; clear hvy hrep hmx
  go_enter Try.func40, Try.ntmps40
  go_wp2_with fail; have B0 := below_more (below_more (Below.refl _ w) (.cells #[.int .i64 k, .string n, .slice sl ks.length cap] 24 (0, 0))) (.cells #[.int .i64 0, .int .i64 0] 29 (0, 0)); refine (HY.out _ _ _ (HR.out.up B0) (HU.out.up B0)).mono ?_; rintro e w1 ⟨rfl, hb1⟩; have q1 := below_keep hb1 (blk_2nd w (.cells #[.int .i64 k, .string n, .slice sl ks.length cap] 24 (0, 0)) (.cells #[.int .i64 0, .int .i64 0] 29 (0, 0))); have B1 := below_join B0 hb1; have HQ1 : Hid (w1.heap[w.heap.size + 1]? = some _) := q1; have y1 := lt_of_block q1; obtain ⟨k1, k2, k3, k4⟩ := blk2 q1; clear hb1 B0; go_wp2_with fail; have f2 := alloc_keep (set2 HQ1.out (.int .i64 c) (.int .i64 d)) (.cells #[.int .i64 c, .int .i64 d] 29 (0, 0)); (have b2 := below_more ((B1.setCell (p := ⟨w.heap.size + 1, 0, none⟩) (by simp) (.int .i64 c)).setCell (p := ⟨w.heap.size + 1, 1, none⟩) (by simp) (.int .i64 d)) (.cells #[.int .i64 c, .int .i64 d] 29 (0, 0))); generalize World.alloc _ _ = F at f2 b2 ⊢; obtain ⟨o1, o2, -⟩ := blk2 f2; (exact bodyPost_ret (v := .agg #[.int .i64 c, .int .i64 d]) (by simp [results, Try.results40, go_sem, o1, o2]) rfl ⟨rfl, b2⟩)
end Go.Proofs.Ytffkoiemnchdgaf
