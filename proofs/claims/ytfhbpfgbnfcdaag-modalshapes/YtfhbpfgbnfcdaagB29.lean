/- Texts of one proof, one behind the other: MS6, MS7. -/
import Derived.Test.YtfhbpfgbnfcdaagB28
import Derived.RegionTactic
/- Walks: modal.Shape. -/
namespace Go.Proofs.Ytfhbpfgbnfcdaag
open Go.RowKit

/-- The six shapes of a model that is fine, else none. -/
def shV (m : Mdl) (k : Nat) : Bool := if (mdcode 40 2000 m).1 = 0 then (match k with | 0 => sh0 m.n.toNat (relB m.rel) | 1 => sh1 m.n.toNat (relB m.rel) | 2 => sh2 m.n.toNat (relB m.rel) | 3 => sh3 m.n.toNat (relB m.rel) | 4 => sh4 m.n.toNat (relB m.rel) | _ => sh5 m.n.toNat (relB m.rel)) else false
theorem six_cells {w : World} {b : Nat} {x0 x1 x2 x3 x4 x5 : Value} {T : TypeId} (h : w.heap[b]? = some (.cells #[x0, x1, x2, x3, x4, x5] T (0, 0))) : w.cell? ⟨b, 0, none⟩ = some x0 ∧ w.cell? ⟨b, 1, none⟩ = some x1 ∧ w.cell? ⟨b, 2, none⟩ = some x2 ∧ w.cell? ⟨b, 3, none⟩ = some x3 ∧ w.cell? ⟨b, 4, none⟩ = some x4 ∧ w.cell? ⟨b, 5, none⟩ = some x5 ∧ w.frozen? ⟨b, 0, none⟩ = false ∧ w.frozen? ⟨b, 1, none⟩ = false ∧ w.frozen? ⟨b, 2, none⟩ = false ∧ w.frozen? ⟨b, 3, none⟩ = false ∧ w.frozen? ⟨b, 4, none⟩ = false ∧ w.frozen? ⟨b, 5, none⟩ = false :=
  ⟨blk_cell h 0, blk_cell h 1, blk_cell h 2, blk_cell h 3, blk_cell h 4, blk_cell h 5, blk_fz h 0, blk_fz h 1, blk_fz h 2, blk_fz h 3, blk_fz h 4, blk_fz h 5⟩
theorem set6_other {w : World} {b c : Nat} (h : c ≠ b) {y0 y1 y2 y3 y4 y5 : Value} : (set6 w b y0 y1 y2 y3 y4 y5).heap[c]? = w.heap[c]? := by
  unfold set6; rw [Below.heap_setCell _ _ _ _ h, Below.heap_setCell _ _ _ _ h, Below.heap_setCell _ _ _ _ h, Below.heap_setCell _ _ _ _ h, Below.heap_setCell _ _ _ _ h, Below.heap_setCell _ _ _ _ h]
theorem wfirst_two : ∀ (ls : List (List (List UInt8))) (i : Nat), (wfirst ls i).1 = 0 → (wfirst ls i).2 = 0
  | [], _, _ => rfl
  | l :: ls, i, h => by
    rw [wfirst] at h ⊢
    split at h
    · rename_i h0
      rw [if_pos h0]; exact wfirst_two ls (i + 1) h
    · rename_i h0
      exact absurd h h0
theorem mdcode_two {W P : Int} {m : Mdl} (h0 : (mdcode W P m).1 = 0) : mdcode W P m = (0, 0) := by
  refine Prod.ext h0 ?_; unfold mdcode at h0 ⊢
  split at h0
  · cases h0
  rename_i h1
  rw [if_neg h1]
  split at h0
  · cases h0
  rename_i h2
  rw [if_neg h2]
  split at h0
  · cases h0
  rename_i h3
  rw [if_neg h3]; exact wfirst_two _ _ h0
set_option maxRecDepth 10000 in
set_option maxHeartbeats 4000000 in
theorem Shape_bad (m : Mdl) (h0 : (mdcode 40 2000 m).1 ≠ 0) (v : Value) (w : World) (hv : MR w m v) :
    Calls Try.prog 12 #[v] w fun e w' => e = .returned (.tuple #[.agg #[.bool false, .bool false, .bool false, .bool false, .bool false, .bool false], .agg #[.int .i64 (mdcode 40 2000 m).1, .int .i64 (mdcode 40 2000 m).2]]) ∧ Below w.heap.size w w' := by
  (have HCk : Hid (∀ w, MR w m v → Calls Try.prog 35 #[v] w fun e w' => e = .returned (.agg #[.int .i64 (mdcode 40 2000 m).1, .int .i64 (mdcode 40 2000 m).2]) ∧ Below w.heap.size w w') := fun w h => kCheck_any m v w h); have HV : Hid (MR w m v) := hv; obtain ⟨ra, rc, ta, tc, rfl, -⟩ := hv; generalize mdcode 40 2000 m = md at *; obtain ⟨c, a⟩ := md; (have hcn : (c != 0) = true := by simpa using h0); obtain ⟨W, hW⟩ : ∃ W, W = ((w.alloc (.cells #[.int .i64 m.n, .slice ra m.rel.length rc, .slice ta m.tr.length tc] 25 (0, 0))).alloc (.cells #[.bool false, .bool false, .bool false, .bool false, .bool false, .bool false] 39 (0, 0))).alloc (.cells #[.int .i64 0, .int .i64 0] 34 (0, 0)) := ⟨_, rfl⟩; (have HB0 : Hid (Below w.heap.size w W) := by rw [hW]; exact below_more (below_more (below_more (Below.refl _ w) _) _) _); obtain ⟨-, b2, b3⟩ := blk_threeM w (.cells #[.int .i64 m.n, .slice ra m.rel.length rc, .slice ta m.tr.length tc] 25 (0, 0)) (.cells #[.bool false, .bool false, .bool false, .bool false, .bool false, .bool false] 39 (0, 0)) (.cells #[.int .i64 0, .int .i64 0] 34 (0, 0)); rw [← hW] at b2 b3; have HQ1 : Hid (W.heap[w.heap.size + 1]? = some (.cells #[.bool false, .bool false, .bool false, .bool false, .bool false, .bool false] 39 (0, 0))) := b2; have HQ2 : Hid (W.heap[w.heap.size + 1 + 1]? = some (.cells #[.int .i64 0, .int .i64 0] 34 (0, 0))) := b3; clear b2 b3 h0
  go_enter Try.func12, Try.ntmps12
  go_wp2_with fail; rw [← hW]; refine (HCk.out _ (HV.out.up HB0.out)).mono ?_; rintro _ w1 ⟨rfl, hb1⟩; have HB1 : Hid (Below w.heap.size w w1) := below_join HB0.out hb1; have HR1 : Hid (w1.heap[w.heap.size + 1]? = some (.cells #[.bool false, .bool false, .bool false, .bool false, .bool false, .bool false] 39 (0, 0))) := below_keep hb1 HQ1.out; have HR2 : Hid (w1.heap[w.heap.size + 1 + 1]? = some (.cells #[.int .i64 0, .int .i64 0] 34 (0, 0))) := below_keep hb1 HQ2.out; clear hb1 hW; obtain ⟨X, hX⟩ : ∃ X, w1.alloc (.cells #[.int .i64 c, .int .i64 a] 34 (0, 0)) = X := ⟨_, rfl⟩; (have HX1 : Hid (X.heap[w.heap.size + 1]? = some (.cells #[.bool false, .bool false, .bool false, .bool false, .bool false, .bool false] 39 (0, 0))) := by rw [← hX]; exact alloc_keep HR1.out _); (have HX2 : Hid (X.heap[w.heap.size + 1 + 1]? = some (.cells #[.int .i64 0, .int .i64 0] 34 (0, 0))) := by rw [← hX]; exact alloc_keep HR2.out _); obtain ⟨q20, q21, q22, q23⟩ := blk2 HX2.out; obtain ⟨s0, s1, s2, s3, s4, s5, z0, z1, z2, z3, z4, z5⟩ := six_cells HX1.out; (obtain ⟨q30, q31, -⟩ := blk2 (show X.heap[w1.heap.size]? = some _ by rw [← hX]; exact blk_new _ _)); (have HBX : Hid (Below w.heap.size w X) := by rw [← hX]; exact below_more HB1.out _); have zb1 := lt_of_block HR1.out; have zb2 := lt_of_block HR2.out; (have n1 : ¬ w1.heap.size = w.heap.size + 1 := by omega); (have n2 : ¬ w.heap.size + 1 = w1.heap.size := by omega); (have n3 : ¬ w1.heap.size = w.heap.size + 1 + 1 := by omega); (have n4 : ¬ w.heap.size + 1 + 1 = w1.heap.size := by omega); (have n5 : ¬ w.heap.size + 1 + 1 = w.heap.size + 1 := by omega); (have n6 : ¬ w.heap.size + 1 = w.heap.size + 1 + 1 := by omega); go_wp2_with fail
  go_region
  all_goals
    go_wp2_with fail; obtain ⟨F, hF⟩ : ∃ F, F = ((set6 X (w.heap.size + 1) (.bool false) (.bool false) (.bool false) (.bool false) (.bool false) (.bool false)).setCell ⟨w.heap.size + 1 + 1, 0, none⟩ (.int .i64 c)).setCell ⟨w.heap.size + 1 + 1, 1, none⟩ (.int .i64 a) := ⟨_, rfl⟩; (have HF0 : Hid ((set6 X (w.heap.size + 1) (.bool false) (.bool false) (.bool false) (.bool false) (.bool false) (.bool false)).heap[w.heap.size + 1 + 1]? = some (.cells #[.int .i64 0, .int .i64 0] 34 (0, 0))) := by show _ = _; rw [set6_other (by omega)]; exact HX2.out)
    have HF1 : Hid (F.heap[w.heap.size + 1]? = some (.cells #[.bool false, .bool false, .bool false, .bool false, .bool false, .bool false] 39 (0, 0))) := by
      show _ = _; (rw [hF, Below.heap_setCell _ _ _ _ (by simp), Below.heap_setCell _ _ _ _ (by simp)]); exact set6_blk HX1.out _ _ _ _ _ _
    (have HF2 : Hid (F.heap[w.heap.size + 1 + 1]? = some (.cells #[.int .i64 c, .int .i64 a] 34 (0, 0))) := by rw [hF]; exact set2 HF0.out _ _); (have HF3 : Hid (Below w.heap.size w F) := by rw [hF]; exact ((set6_below HBX.out (by omega) _ _ _ _ _ _).setCell (p := ⟨w.heap.size + 1 + 1, 0, none⟩) (by simp; omega) _).setCell (p := ⟨w.heap.size + 1 + 1, 1, none⟩) (by simp; omega) _); unfold set6 at hF; rw [← hF]; clear hF HF0 s0 s1 s2 s3 s4 s5 z0 z1 z2 z3 z4 z5 q20 q21 q22 q23; obtain ⟨o0, o1, o2, o3, o4, o5, -⟩ := six_cells HF1.out; obtain ⟨o6, o7, -⟩ := blk2 HF2.out; (exact bodyPost_ret (v := .tuple #[.agg #[.bool false, .bool false, .bool false, .bool false, .bool false, .bool false], .agg #[.int .i64 c, .int .i64 a]]) (by simp [results, Try.results12, go_sem, o0, o1, o2, o3, o4, o5, o6, o7]) rfl ⟨rfl, HF3.out.drew⟩)
set_option maxRecDepth 10000 in
set_option maxHeartbeats 4000000 in
theorem Shape_ok (N : Nat) (hN : N ≤ 40) (rel : List (Int × Int)) (hrl : rel.length ≤ 2000) (hin : InR N rel) (tr : List (List (List UInt8))) (h0 : mdcode 40 2000 ⟨(N : Int), rel, tr⟩ = (0, 0)) (v : Value) (w : World) (hv : MR w ⟨(N : Int), rel, tr⟩ v) :
    Calls Try.prog 12 #[v] w fun e w' => e = .returned (.tuple #[.agg #[.bool (sh0 N (relB rel)), .bool (sh1 N (relB rel)), .bool (sh2 N (relB rel)), .bool (sh3 N (relB rel)), .bool (sh4 N (relB rel)), .bool (sh5 N (relB rel))], .agg #[.int .i64 0, .int .i64 0]]) ∧ Below w.heap.size w w' := by
  obtain ⟨ec, hec⟩ : ∃ ec : Int, (0 : Int) = ec := ⟨_, rfl⟩; obtain ⟨ea, hea⟩ : ∃ ea : Int, ((0 : Int), (0 : Int)).2 = ea := ⟨_, rfl⟩
  have HCk : Hid (∀ w, MR w ⟨(N : Int), rel, tr⟩ v → Calls Try.prog 35 #[v] w fun e w' => e = .returned (.agg #[.int .i64 ec, .int .i64 ea]) ∧ Below w.heap.size w w') := fun w h => by
    have := kCheck_any _ v w h; rw [h0] at this; rw [← hec, ← hea]; exact this
  (have hcn : (ec != 0) = false := by rw [← hec]; rfl); have HV : Hid (MR w ⟨(N : Int), rel, tr⟩ v) := hv; obtain ⟨ra, rc, ta, tc, rfl, hpl, -, -⟩ := hv; simp only at hpl HCk HV ⊢; (have HFo : Hid (∀ wx, Below w.heap.size w wx → Calls Try.prog 29 #[.agg #[.int .i64 (N : Nat), .slice ra rel.length rc, .slice ta tr.length tc]] wx _) := fun wx hb => frameOf_any N hN rel hrl hin ra ta rc tr.length tc wx (hpl.up hb)); (have HSh : Hid (∀ g wx, FR wx g N (relB rel) → Calls Try.prog 36 #[.slice (some ⟨g, 0, none⟩) N N] wx _) := fun g wx h => shape_any hN g (relB rel) wx h); generalize sh0 N (relB rel) = b0 at *; generalize sh1 N (relB rel) = b1 at *; generalize sh2 N (relB rel) = b2 at *; generalize sh3 N (relB rel) = b3 at *; generalize sh4 N (relB rel) = b4 at *; generalize sh5 N (relB rel) = b5 at *; obtain ⟨W, hW⟩ : ∃ W, W = ((w.alloc (.cells #[.int .i64 (N : Nat), .slice ra rel.length rc, .slice ta tr.length tc] 25 (0, 0))).alloc (.cells #[.bool false, .bool false, .bool false, .bool false, .bool false, .bool false] 39 (0, 0))).alloc (.cells #[.int .i64 0, .int .i64 0] 34 (0, 0)) := ⟨_, rfl⟩; (have HB0 : Hid (Below w.heap.size w W) := by rw [hW]; exact below_more (below_more (below_more (Below.refl _ w) _) _) _); obtain ⟨p1, p2, p3⟩ := blk_threeM w (.cells #[.int .i64 (N : Nat), .slice ra rel.length rc, .slice ta tr.length tc] 25 (0, 0)) (.cells #[.bool false, .bool false, .bool false, .bool false, .bool false, .bool false] 39 (0, 0)) (.cells #[.int .i64 0, .int .i64 0] 34 (0, 0)); rw [← hW] at p1 p2 p3; have HQ0 : Hid (W.heap[w.heap.size]? = some (.cells #[.int .i64 (N : Nat), .slice ra rel.length rc, .slice ta tr.length tc] 25 (0, 0))) := p1; have HQ1 : Hid (W.heap[w.heap.size + 1]? = some (.cells #[.bool false, .bool false, .bool false, .bool false, .bool false, .bool false] 39 (0, 0))) := p2; have HQ2 : Hid (W.heap[w.heap.size + 1 + 1]? = some (.cells #[.int .i64 0, .int .i64 0] 34 (0, 0))) := p3; clear p1 p2 p3 h0 hec hea hpl hN hrl hin
  go_enter Try.func12, Try.ntmps12
  go_wp2_with fail; rw [← hW]; refine (HCk.out _ (HV.out.up HB0.out)).mono ?_; rintro _ w1 ⟨rfl, hb1⟩; have HB1 : Hid (Below w.heap.size w w1) := below_join HB0.out hb1; have HR0 : Hid (w1.heap[w.heap.size]? = some (.cells #[.int .i64 (N : Nat), .slice ra rel.length rc, .slice ta tr.length tc] 25 (0, 0))) := below_keep hb1 HQ0.out; have HR1 : Hid (w1.heap[w.heap.size + 1]? = some (.cells #[.bool false, .bool false, .bool false, .bool false, .bool false, .bool false] 39 (0, 0))) := below_keep hb1 HQ1.out; have HR2 : Hid (w1.heap[w.heap.size + 1 + 1]? = some (.cells #[.int .i64 0, .int .i64 0] 34 (0, 0))) := below_keep hb1 HQ2.out; clear hb1 hW; obtain ⟨X, hX⟩ : ∃ X, w1.alloc (.cells #[.int .i64 ec, .int .i64 ea] 34 (0, 0)) = X := ⟨_, rfl⟩; (have HX0 : Hid (X.heap[w.heap.size]? = some (.cells #[.int .i64 (N : Nat), .slice ra rel.length rc, .slice ta tr.length tc] 25 (0, 0))) := by rw [← hX]; exact alloc_keep HR0.out _); (have HX1 : Hid (X.heap[w.heap.size + 1]? = some (.cells #[.bool false, .bool false, .bool false, .bool false, .bool false, .bool false] 39 (0, 0))) := by rw [← hX]; exact alloc_keep HR1.out _); (have HX2 : Hid (X.heap[w.heap.size + 1 + 1]? = some (.cells #[.int .i64 0, .int .i64 0] 34 (0, 0))) := by rw [← hX]; exact alloc_keep HR2.out _); (have HBX : Hid (Below w.heap.size w X) := by rw [← hX]; exact below_more HB1.out _); (obtain ⟨q30, q31, -⟩ := blk2 (show X.heap[w1.heap.size]? = some _ by rw [← hX]; exact blk_new _ _)); obtain ⟨k0, k1, k2, -⟩ := blk3 HX0.out; go_wp2_with fail; refine (HFo.out _ HBX.out).mono ?_; rintro _ w2 ⟨g, rfl, -, hfr, hb2⟩; have HF2 : Hid (FR w2 g N (relB rel)) := hfr; have HB2 : Hid (Below X.heap.size X w2) := hb2; clear hfr hb2 hX q30 q31 k0 k1 k2; go_wp2_with fail; refine (HSh.out g w2 HF2.out).mono ?_; rintro _ w3 ⟨rfl, hb3⟩; have HB3 : Hid (Below w.heap.size w w3) := below_join (below_join HBX.out HB2.out) hb3; have HY1 : Hid (w3.heap[w.heap.size + 1]? = some (.cells #[.bool false, .bool false, .bool false, .bool false, .bool false, .bool false] 39 (0, 0))) := below_keep hb3 (below_keep HB2.out HX1.out); have HY2 : Hid (w3.heap[w.heap.size + 1 + 1]? = some (.cells #[.int .i64 0, .int .i64 0] 34 (0, 0))) := below_keep hb3 (below_keep HB2.out HX2.out); clear hb3; obtain ⟨s0, s1, s2, s3, s4, s5, z0, z1, z2, z3, z4, z5⟩ := six_cells HY1.out; obtain ⟨q20, q21, q22, q23⟩ := blk2 HY2.out; go_wp2_with fail; obtain ⟨F, hF⟩ : ∃ F, F = ((set6 w3 (w.heap.size + 1) (.bool b0) (.bool b1) (.bool b2) (.bool b3) (.bool b4) (.bool b5)).setCell ⟨w.heap.size + 1 + 1, 0, none⟩ (.int .i64 0)).setCell ⟨w.heap.size + 1 + 1, 1, none⟩ (.int .i64 0) := ⟨_, rfl⟩; (have HF0 : Hid ((set6 w3 (w.heap.size + 1) (.bool b0) (.bool b1) (.bool b2) (.bool b3) (.bool b4) (.bool b5)).heap[w.heap.size + 1 + 1]? = some (.cells #[.int .i64 0, .int .i64 0] 34 (0, 0))) := by show _ = _; rw [set6_other (by omega)]; exact HY2.out)
  have HF1 : Hid (F.heap[w.heap.size + 1]? = some (.cells #[.bool b0, .bool b1, .bool b2, .bool b3, .bool b4, .bool b5] 39 (0, 0))) := by
    show _ = _; (rw [hF, Below.heap_setCell _ _ _ _ (by simp), Below.heap_setCell _ _ _ _ (by simp)]); exact set6_blk HY1.out _ _ _ _ _ _
  (have HF2 : Hid (F.heap[w.heap.size + 1 + 1]? = some (.cells #[.int .i64 0, .int .i64 0] 34 (0, 0))) := by rw [hF]; exact set2 HF0.out _ _); (have HF3 : Hid (Below w.heap.size w F) := by rw [hF]; exact ((set6_below HB3.out (by omega) _ _ _ _ _ _).setCell (p := ⟨w.heap.size + 1 + 1, 0, none⟩) (by simp; omega) _).setCell (p := ⟨w.heap.size + 1 + 1, 1, none⟩) (by simp; omega) _); unfold set6 at hF; rw [← hF]; clear hF HF0 s0 s1 s2 s3 s4 s5 z0 z1 z2 z3 z4 z5 q20 q21 q22 q23; obtain ⟨o0, o1, o2, o3, o4, o5, -⟩ := six_cells HF1.out; obtain ⟨o6, o7, -⟩ := blk2 HF2.out; (exact bodyPost_ret (v := .tuple #[.agg #[.bool b0, .bool b1, .bool b2, .bool b3, .bool b4, .bool b5], .agg #[.int .i64 0, .int .i64 0]]) (by simp [results, Try.results12, go_sem, o0, o1, o2, o3, o4, o5, o6, o7]) rfl ⟨rfl, HF3.out⟩)
theorem Shape_any (m : Mdl) (v : Value) (w : World) (hv : MR w m v) :
    Calls Try.prog 12 #[v] w fun e w' => e = .returned (.tuple #[.agg #[.bool (shV m 0), .bool (shV m 1), .bool (shV m 2), .bool (shV m 3), .bool (shV m 4), .bool (shV m 5)], .agg #[.int .i64 (mdcode 40 2000 m).1, .int .i64 (mdcode 40 2000 m).2]]) ∧ Below w.heap.size w w' := by
  by_cases h0 : (mdcode 40 2000 m).1 = 0
  · have h1 := mdcode_two h0
    obtain ⟨N, hn, -, hN, hr, ht, hin⟩ := mdcode_in h0; (have e : ∀ k, shV m k = (match k with | 0 => sh0 m.n.toNat (relB m.rel) | 1 => sh1 m.n.toNat (relB m.rel) | 2 => sh2 m.n.toNat (relB m.rel) | 3 => sh3 m.n.toNat (relB m.rel) | 4 => sh4 m.n.toNat (relB m.rel) | _ => sh5 m.n.toNat (relB m.rel)) := fun k => if_pos h0); rw [e 0, e 1, e 2, e 3, e 4, e 5, h1]; obtain ⟨n, rel, tr⟩ := m; simp only at hn hr ht hin; subst hn; (exact Shape_ok N (by omega) rel (by omega) hin tr h1 v w hv)
  · have e : ∀ k, shV m k = false := fun k => if_neg h0
    rw [e 0, e 1, e 2, e 3, e 4, e 5]; exact Shape_bad m h0 v w hv
end Go.Proofs.Ytfhbpfgbnfcdaag
/- Six formulas hold just where the six shapes are so, plain. -/
namespace Go.Proofs.Ytfhbpfgbnfcdaag
open Go.RowKit

theorem allNs_memM {g : Fm} : ∀ {ks : List Fm} {f : Fm}, f ∈ ks → g ∈ allN f → g ∈ allNs ks
  | [], _, h, _ => by cases h
  | a :: ks, f, h, hg => by
    rw [allNs, List.mem_append]
    rcases List.mem_cons.1 h with rfl | h
    · exact Or.inl hg
    · exact Or.inr (allNs_memM h hg)
theorem mem_nmsT {f : Fm} {t : List UInt8} : t ∈ nmsT f ↔ ∃ n ks, Fm.mk 1 n ks ∈ allN f ∧ n.data.toList = t := by
  have key : ∀ (l : List Fm) (b : ByteArray), b ∈ nmsOf l ↔ ∃ ks, Fm.mk 1 b ks ∈ l := by
    intro l b
    induction l with
    | nil => simp [nmsOf]
    | cons f l ih =>
      obtain ⟨k, n, ks⟩ := f; rw [nmsOf]; by_cases hk : k = 1
      · subst hk
        rw [if_pos rfl, List.mem_cons, ih]
        constructor
        · rintro (rfl | ⟨q, hq⟩)
          · exact ⟨ks, by simp⟩
          · exact ⟨q, by simp [hq]⟩
        · rintro ⟨q, hq⟩
          rcases List.mem_cons.1 hq with e | h
          · cases e; exact Or.inl rfl
          · exact Or.inr ⟨q, h⟩
      · rw [if_neg hk, ih]
        constructor
        · rintro ⟨q, hq⟩; exact ⟨q, by simp [hq]⟩
        · rintro ⟨q, hq⟩
          rcases List.mem_cons.1 hq with e | h
          · cases e; exact absurd rfl hk
          · exact ⟨q, h⟩
  unfold nmsT; rw [List.mem_map]
  constructor
  · rintro ⟨b, hb, e⟩
    obtain ⟨ks, h⟩ := (key _ _).1 hb; exact ⟨b, ks, h, e⟩
  · rintro ⟨b, ks, h, e⟩
    exact ⟨b, (key _ _).2 ⟨ks, h⟩, e⟩
theorem nmsT_kidM {k : Int} {n : ByteArray} {ks : List Fm} {t : List UInt8} (h : ∃ f ∈ ks, t ∈ nmsT f) : t ∈ nmsT (.mk k n ks) := by
  obtain ⟨f, hf, ht⟩ := h; obtain ⟨b, qs, hb, e⟩ := mem_nmsT.1 ht; refine mem_nmsT.2 ⟨b, qs, ?_, e⟩; rw [allN]; exact List.mem_cons_of_mem _ (allNs_memM hf hb)
theorem nmsT_selfM {k : Int} {n : ByteArray} {ks : List Fm} (h : k = 1) : n.data.toList ∈ nmsT (.mk k n ks) := by
  subst h; refine mem_nmsT.2 ⟨n, ks, ?_, rfl⟩; rw [allN]
  simp
mutual
/-- What is true hangs on the worlds below N alone. -/
theorem mtv_below {N : Nat} {R : Nat → Nat → Bool} {p q : Nat → List UInt8 → Bool} : ∀ (f : Fm), (∀ u s, u < N → s ∈ nmsT f → p u s = q u s) → ∀ u, u < N → mtv (seeR N R) p f u = mtv (seeR N R) q f u
  | .mk k n ks, h, u, hu => by
    (have h0 := mtvs_below (R := R) ks (fun u s hu hs => h u s hu (nmsT_kidM hs)) 0); (have h1 := mtvs_below (R := R) ks (fun u s hu hs => h u s hu (nmsT_kidM hs)) 1); (have e1 : k = 1 → p u n.data.toList = q u n.data.toList := fun e => h u _ hu (nmsT_selfM e)); rw [mtv, mtv]; unfold mval
    have ha : (seeR N R u).all ((mtvs (seeR N R) p ks).getD 0 fun _ => false) = (seeR N R u).all ((mtvs (seeR N R) q ks).getD 0 fun _ => false) := by
      rw [Bool.eq_iff_iff, List.all_eq_true, List.all_eq_true]; (exact ⟨fun g v hv => by rw [← h0 v (mem_seeR.1 hv).1]; exact g v hv, fun g v hv => by rw [h0 v (mem_seeR.1 hv).1]; exact g v hv⟩)
    have hb : (seeR N R u).any ((mtvs (seeR N R) p ks).getD 0 fun _ => false) = (seeR N R u).any ((mtvs (seeR N R) q ks).getD 0 fun _ => false) := by
      rw [Bool.eq_iff_iff, List.any_eq_true, List.any_eq_true]; (exact ⟨fun ⟨v, hv, g⟩ => ⟨v, hv, by rw [← h0 v (mem_seeR.1 hv).1]; exact g⟩, fun ⟨v, hv, g⟩ => ⟨v, hv, by rw [h0 v (mem_seeR.1 hv).1]; exact g⟩⟩)
    rw [ha, hb, h0 u hu, h1 u hu]; by_cases hk : k = 1
    · rw [if_pos hk, if_pos hk]; exact e1 hk
    · rw [if_neg hk, if_neg hk]
theorem mtvs_below {N : Nat} {R : Nat → Nat → Bool} {p q : Nat → List UInt8 → Bool} : ∀ (fs : List Fm), (∀ u s, u < N → (∃ f ∈ fs, s ∈ nmsT f) → p u s = q u s) → ∀ i u, u < N → (mtvs (seeR N R) p fs).getD i (fun _ => false) u = (mtvs (seeR N R) q fs).getD i (fun _ => false) u
  | [], _, i, u, _ => by rw [mtvs, mtvs]
  | f :: fs, h, i, u, hu => by
    rw [mtvs, mtvs]
    cases i with
    | zero => simpa using mtv_below f (fun u s hu hs => h u s hu ⟨f, by simp, hs⟩) u hu
    | succ i => simpa using mtvs_below fs (fun u s hu hs => by obtain ⟨g, hg, hs⟩ := hs; exact h u s hu ⟨g, by simp [hg], hs⟩) i u hu
end
/-- The six shapes by number. -/
def shN (N : Nat) (R : Nat → Nat → Bool) (k : Nat) : Bool := match k with | 0 => sh0 N R | 1 => sh1 N R | 2 => sh2 N R | 3 => sh3 N R | 4 => sh4 N R | _ => sh5 N R
def sixF (k : Nat) : Fm := six.getD k fPm
theorem val_sh {N : Nat} {R : Nat → Nat → Bool} {k : Nat} (hk : k < 6) : Val N R (sixF k) ↔ shN N R k = true := by
  match k, hk with
  | 0, _ => exact val0
  | 1, _ => exact val1
  | 2, _ => exact val2
  | 3, _ => exact val3
  | 4, _ => exact val4
  | 5, _ => exact val5
theorem nodup_one {l : List (List UInt8)} {x : List UInt8} (hn : l.Nodup) (h : ∀ t, t ∈ l ↔ t = x) : l = [x] := by
  match l, hn, h with
  | [], _, h => exact absurd ((h x).2 rfl) (by simp)
  | [a], _, h => rw [(h a).1 (by simp)]
  | a :: b :: l, hn, h =>
    (have e1 := (h a).1 (by simp)); (have e2 := (h b).1 (by simp)); subst e1; subst e2; simp at hn
theorem six_namesT {k : Nat} (hk : k < 6) : (nmsT (sixF k)).all (· == [112]) = true ∧ (nmsT (sixF k)).contains [112] = true := by
  match k, hk with
  | 0, _ => decide +kernel
  | 1, _ => decide +kernel
  | 2, _ => decide +kernel
  | 3, _ => decide +kernel
  | 4, _ => decide +kernel
  | 5, _ => decide +kernel
theorem six_names {k : Nat} (hk : k < 6) : nmsU (sixF k) = [[112]] := by
  obtain ⟨h1, h2⟩ := six_namesT hk; (refine nodup_one (nmsU_nodup _) fun t => ?_); rw [nmsU_mem]
  constructor
  · intro ht
    simpa using List.all_eq_true.1 h1 t ht
  · rintro rfl
    simpa using h2
theorem six_code {k : Nat} (hk : k < 6) : (sixF k).code = (0, 0) := by
  match k, hk with
  | 0, _ => decide +kernel
  | 1, _ => decide +kernel
  | 2, _ => decide +kernel
  | 3, _ => decide +kernel
  | 4, _ => decide +kernel
  | 5, _ => decide +kernel
theorem holds_val {N : Nat} {R : Nat → Nat → Bool} {f : Fm} : holdsB N (seeR N R) [[112]] f = true ↔ Val N R f := by
  have hp : ∀ row u s, pH N [[112]] row u s = row.testBit u := fun row u s => by
    have : plc [[112]] s = 0 := by
      unfold plc
      split
      · rename_i h
        (have : s = [112] := by simpa using h); subst this; rfl
      · rfl
    rw [pH, this, Nat.mul_zero, Nat.zero_add]
  unfold holdsB; rw [List.all_eq_true]
  constructor
  · intro h V u hu
    (have h1 := h (bm N V) (List.mem_range.2 (by simpa using bm_lt N V))); rw [List.all_eq_true] at h1; have h2 := h1 u (List.mem_range.2 hu); rw [← h2]; (refine mtv_below f (fun v s hv _ => ?_) u hu); rw [hp, bm_bit]; simp [hv]
  · intro h row _
    rw [List.all_eq_true]; intro u hu; (have h1 := h (fun v => row.testBit v) u (List.mem_range.1 hu)); rw [← h1]; (exact mtv_below f (fun v s _ _ => hp row v s) u (List.mem_range.1 hu))
/-- **Correspondence.** -/
theorem six_holds {N : Nat} {R : Nat → Nat → Bool} {k : Nat} (hk : k < 6) : holdsB N (seeR N R) (nmsU (sixF k)) (sixF k) = shN N R k := by
  rw [Bool.eq_iff_iff, six_names hk, holds_val, val_sh hk]
end Go.Proofs.Ytfhbpfgbnfcdaag
