/- Texts of one proof, one behind the other: XM1, XM2. -/
import Derived.Test.YtffkoiemnchdgaeB37
import Derived.Test.YtffkoiemnchdgaeB35
/- Cuts: what is measured, plain; and the walk of nodesIn. -/
namespace Go.Proofs.Ytffkoiemnchdgae
open Go.RowKit

/-- The text of the rule cut. -/
def cutT : List UInt8 := [99, 117, 116]
/-- Steps, depth and rank, one step further. -/
def mstep (x : Pf × Nat) (m : Nat × Nat × Nat) : Nat × Nat × Nat := (m.1 + 1, max m.2.1 x.2, if x.1.rule.data.toList = cutT then max m.2.2 x.1.f.size else m.2.2)
def mlist : List (Pf × Nat) → Nat × Nat × Nat → Nat × Nat × Nat
  | [], m => m
  | x :: xs, m => mlist xs (mstep x m)
theorem mlist_append (xs ys : List (Pf × Nat)) : ∀ m, mlist (xs ++ ys) m = mlist ys (mlist xs m) := by
  induction xs with
  | nil => intro m; rfl
  | cons x xs ih => intro m; rw [List.cons_append, mlist, mlist, ih]
theorem mlist_fst (xs : List (Pf × Nat)) : ∀ m, (mlist xs m).1 = m.1 + xs.length := by
  induction xs with
  | nil => intro m; rfl
  | cons x xs ih => intro m; rw [mlist, ih, mstep, List.length_cons]; omega
theorem mlist_deep (xs : List (Pf × Nat)) : ∀ m N, m.2.1 ≤ N → (∀ x ∈ xs, x.2 ≤ N) → (mlist xs m).2.1 ≤ N := by
  induction xs with
  | nil => intro m N h _; exact h
  | cons x xs ih =>
    intro m N h hx; rw [mlist]; (refine ih _ N ?_ fun y hy => hx y (by simp [hy])); (have := hx x (by simp)); show max m.2.1 x.2 ≤ N; omega
theorem mlist_rank (xs : List (Pf × Nat)) : ∀ m N, m.2.2 ≤ N → (∀ x ∈ xs, x.1.rule.data.toList = cutT → x.1.f.size ≤ N) → (mlist xs m).2.2 ≤ N := by
  induction xs with
  | nil => intro m N h _; exact h
  | cons x xs ih =>
    intro m N h hx; rw [mlist]; (refine ih _ N ?_ fun y hy => hx y (by simp [hy])); (have := hx x (by simp)); (show (if x.1.rule.data.toList = cutT then max m.2.2 x.1.f.size else m.2.2) ≤ N)
    split
    · rename_i e; have := this e; omega
    · exact h
theorem nodesDL_append (ks js : List Pf) (d : Nat) : Pf.nodesDL (ks ++ js) d = Pf.nodesDL ks d ++ Pf.nodesDL js d := by
  induction ks with
  | nil => rw [List.nil_append, Pf.nodesDL]; rfl
  | cons k ks ih => rw [List.cons_append, Pf.nodesDL, Pf.nodesDL, ih, List.append_assoc]
theorem nodesDL_take {ks : List Pf} {i : Nat} {k : Pf} (h : ks[i]? = some k) (d : Nat) : Pf.nodesDL (ks.take (i + 1)) d = Pf.nodesDL (ks.take i) d ++ k.nodesD d := by
  rw [List.take_add_one, h, nodesDL_append]; show _ ++ Pf.nodesDL [k] d = _; rw [Pf.nodesDL, Pf.nodesDL, List.append_nil]
theorem nodesDL_mem {ks : List Pf} {i : Nat} {k : Pf} (h : ks[i]? = some k) (d : Nat) {x : Pf × Nat} (hx : x ∈ k.nodesD d) : x ∈ Pf.nodesDL ks d := by
  have e : ks = ks.take (i + 1) ++ ks.drop (i + 1) := (List.take_append_drop _ _).symm; rw [e, nodesDL_append, nodesDL_take h]; simp [hx]
theorem nodesDL_len {ks : List Pf} {i : Nat} {k : Pf} (h : ks[i]? = some k) (d : Nat) : (Pf.nodesDL (ks.take i) d).length + (k.nodesD d).length ≤ (Pf.nodesDL ks d).length := by
  have e : ks = ks.take (i + 1) ++ ks.drop (i + 1) := (List.take_append_drop _ _).symm
  have h2 : (Pf.nodesDL ks d).length = (Pf.nodesDL (ks.take (i + 1)) d).length + (Pf.nodesDL (ks.drop (i + 1)) d).length := by
    rw [← List.length_append, ← nodesDL_append, ← e]
  rw [nodesDL_take h, List.length_append] at h2; omega
theorem fsz_take : ∀ (ks : List Fm) (i : Nat) (g : Fm), ks[i]? = some g → Fm.sizes (ks.take (i + 1)) = Fm.sizes (ks.take i) + g.size ∧ Fm.sizes (ks.take i) + g.size ≤ Fm.sizes ks
  | [], i, g, h => by simp at h
  | x :: ks, 0, g, h => by
    (have e : x = g := by simpa using h); subst e; (have e0 : Fm.sizes ([] : List Fm) = 0 := by rw [Fm.sizes]); rw [List.take_succ_cons, List.take_zero, List.take_zero, e0]; (have e1 : Fm.sizes [x] = x.size + 0 := by simp [Fm.sizes]); (have : Fm.sizes (x :: ks) = x.size + Fm.sizes ks := by rw [Fm.sizes])
    omega
  | x :: ks, i + 1, g, h => by
    (have := fsz_take ks i g (by simpa using h)); (have e : Fm.sizes (x :: ks) = x.size + Fm.sizes ks := by rw [Fm.sizes]); rw [List.take_succ_cons, List.take_succ_cons, Fm.sizes, Fm.sizes]; omega
theorem flen_sizes : ∀ ks : List Fm, ks.length ≤ Fm.sizes ks
  | [] => by simp
  | ⟨k, n, js⟩ :: ks => by
    have := flen_sizes ks; rw [Fm.sizes, List.length_cons, Fm.size]; omega
def NodesP (m : Nat) : Prop := ∀ (fs : List Fm) (v : Value) (w : World), Fm.sizes fs < m → Fm.sizes fs ≤ 100000 → FL w v fs →
  Calls Try.prog 34 #[v] w fun e w' => e = .returned (.int .i64 (Fm.sizes fs : Nat)) ∧ Below w.heap.size w w'

set_option maxRecDepth 10000 in
set_option maxHeartbeats 2000000 in
theorem nodes_step (m : Nat) (ih : NodesP m) : NodesP (m + 1) := by
  intro fs v w hm hs hv; obtain ⟨ad, cap, rfl, h1, h2, h3⟩ := hv; (have H3 : Hid (fs ≠ [] → ∃ b off, ad = some ⟨b, off, none⟩ ∧ Reps w (fun _ => True) b off fs) := h3); have HIH : Hid (NodesP m) := ih; have HM : Hid (Fm.sizes fs < m + 1 ∧ Fm.sizes fs ≤ 100000) := ⟨hm, hs⟩; (have hlI : (fs.length : Int) ≤ 100000 := by have := flen_sizes fs; omega); (have hlc : (fs.length : Int) ≤ (cap : Int) := by omega); clear h3 ih hm hs h1 h2
  go_enter Try.func34, Try.ntmps34
  go_wp2_with fail
  go_loopg [10, 3] fs.length (fun g c s wr => ∃ i x, i ≤ fs.length ∧ g = fs.length - i ∧ c = .int .i64 (i : Nat) ∧ s = .int .i64 (x : Nat) ∧ Hid (x + i = fs.length + Fm.sizes (fs.take i)) ∧ Hid (Below w.heap.size w wr))
  case atStart => exact ⟨0, fs.length, by omega, by omega, rfl, rfl, by show _ = _; rw [List.take_zero, Fm.sizes], Below.refl _ _⟩
  case round =>
    obtain ⟨i, x, hi, hg, rfl, rfl, HX, HB⟩ := hrel; have HG : Hid (gk = fs.length - i) := hg; clear hg; by_cases hlt : i < fs.length
    · obtain ⟨⟨k, n, ks⟩, hfi⟩ : ∃ f, fs[i]? = some f := ⟨_, List.getElem?_eq_getElem hlt⟩
      (obtain ⟨b, off, rfl, hrs⟩ := H3.out (fun e => by rw [e] at hlt; simp at hlt)); obtain ⟨sl, cp, g0, g1, g2, hrep⟩ := (hrs.up HB.out).at i k n ks hfi; (have hltI : (i : Int) < (fs.length : Int) := by omega); (have hltc : (i : Int) < (cap : Int) := by omega); obtain ⟨t1, t2⟩ := fsz_take fs i _ hfi; (have es : (Fm.mk k n ks).size = Fm.sizes ks + 1 := by rw [Fm.size]); rw [es] at t1 t2; (have hx1 : x + 1 ≤ 200000 := by have := HX.out; have := HM.out; omega); (have hxI : (x : Int) ≤ 200000 := by omega); (have hks : Fm.sizes ks ≤ 100000 := by have := HM.out; omega); (have hkI : (Fm.sizes ks : Int) ≤ 100000 := by omega); (have HX2 : Hid (x + Fm.sizes ks + (i + 1) = fs.length + Fm.sizes (fs.take (i + 1))) := by have := HX.out; show _ = _; omega)
      have hc := HIH.out ks (.slice sl ks.length cp) (wr.alloc (.cells #[.int .i64 k, .string n, .slice sl ks.length cp] 24 (0, 0))) (by have := HM.out; omega) hks (by
        have hb := (Below.refl wr.heap.size wr).alloc (Nat.le_refl _) (.cells #[.int .i64 k, .string n, .slice sl ks.length cp] 24 (0, 0)); obtain ⟨sl', cp', e, -, q1, q2, q3⟩ := Rep.def.1 (hrep.up hb); simp only [Value.agg.injEq, Array.mk.injEq, List.cons.injEq, Value.slice.injEq, true_and, and_true] at e; obtain ⟨rfl, rfl⟩ := e
        exact ⟨sl, cp, rfl, q1, q2, fun hne => by obtain ⟨b, off, e1, -, e3⟩ := q3 hne; exact ⟨b, off, e1, e3⟩⟩)
      generalize Fm.sizes ks = S at *; (have HC : Hid (Calls Try.prog 34 _ _ fun e w' => e = .returned (.int .i64 (S : Nat)) ∧ Below (wr.alloc (.cells #[.int .i64 k, .string n, .slice sl ks.length cp] 24 (0, 0))).heap.size (wr.alloc (.cells #[.int .i64 k, .string n, .slice sl ks.length cp] 24 (0, 0))) w') := hc); have HI : Hid (i < fs.length) := hlt; clear hc hrep hrs hfi t1 t2 es hlt hi hks hx1; go_wp2_with fail; refine HC.out.mono ?_; rintro e w2 ⟨rfl, hb2⟩; have HB2 : Hid (Below w.heap.size w w2) := below_join HB.out (below_join ((Below.refl _ wr).alloc (Nat.le_refl _) _) hb2); clear hb2 g0 g1 g2 HC; go_wp2_with fail
      go_roundg (fs.length - (i + 1))
      case measure => have := HG.out; have := HI.out; omega
      case rel => exact ⟨i + 1, x + S, HI.out, rfl, by go_num, by go_num, HX2, HB2⟩
    · have hii : i = fs.length := by omega
      subst hii; (have hge : ¬ (fs.length : Int) < (fs.length : Int) := by omega); have hxe := HX.out; rw [List.take_length] at hxe; (have hxx : x = Fm.sizes fs := by omega); clear hlt hi hxe; go_wp2_with fail; go_ret; exact ⟨rfl, HB.out⟩
theorem nodes_all : ∀ m, NodesP m
  | 0 => fun _ _ _ h => absurd h (Nat.not_lt_zero _)
  | m + 1 => nodes_step m (nodes_all m)
theorem nodesIn_one (f : Fm) (hf : f.size ≤ 1000) (v : Value) (w : World) (hv : FL w v [f]) : Calls Try.prog 34 #[v] w fun e w' => e = .returned (.int .i64 (f.size : Nat)) ∧ Below w.heap.size w w' := by
  (have e : Fm.sizes [f] = f.size := by simp [Fm.sizes]); (have := nodes_all (Fm.sizes [f] + 1) [f] v w (Nat.lt_succ_self _) (by omega) hv)
  rwa [e] at this
end Go.Proofs.Ytffkoiemnchdgae
/- Cuts: the walk of what Measure does with each step. -/
namespace Go.Proofs.Ytffkoiemnchdgae
open Go.RowKit

/-- Three variables that are counted in, each in a block of its own. -/
structure M3 (w : World) (bs bd br : Nat) (m : Nat × Nat × Nat) : Prop where
  s : w.heap[bs]? = some (.cells #[.int .i64 (m.1 : Nat)] 3 (0, 0))
  d : w.heap[bd]? = some (.cells #[.int .i64 (m.2.1 : Nat)] 3 (0, 0))
  r : w.heap[br]? = some (.cells #[.int .i64 (m.2.2 : Nat)] 3 (0, 0))
theorem M3.up {w w' : World} {bs bd br : Nat} {m : Nat × Nat × Nat} (h : M3 w bs bd br m) (hb : Below w.heap.size w w') : M3 w' bs bd br m := ⟨below_keep hb h.s, below_keep hb h.d, below_keep hb h.r⟩
def KB3 (bs bd br : Nat) (w w' : World) : Prop := Kept (fun b => b ≠ bs ∧ b ≠ bd ∧ b ≠ br) w w'
set_option maxRecDepth 10000 in
set_option maxHeartbeats 4000000 in
theorem vis_any (p : Pf) (v : Value) (w0 w : World) (d bs bd br : Nat) (m : Nat × Nat × Nat) (hv : PRep w0 p v) (hw0 : Below w0.heap.size w0 w) (hB : w0.heap.size ≤ bs ∧ w0.heap.size ≤ bd ∧ w0.heap.size ≤ br) (hm : M3 w bs bd br m) (h1 : bs ≠ bd) (h2 : bs ≠ br) (h3 : bd ≠ br) (hb1 : m.1 ≤ 100000) (hb2 : m.2.1 ≤ 100000) (hb3 : m.2.2 ≤ 100000) (hd : d ≤ 100000) (hf : p.rule.data.toList = cutT → p.f.size ≤ 1000) :
    Calls Try.prog 33 #[v, .int .i64 (d : Nat), .pointer (some ⟨bs, 0, none⟩), .pointer (some ⟨bd, 0, none⟩), .pointer (some ⟨br, 0, none⟩)] w fun e w' => e = .returned (.tuple #[]) ∧ M3 w' bs bd br (mstep (p, d) m) ∧ KB3 bs bd br w w' := by
  obtain ⟨s0, d0, r0⟩ := m; obtain ⟨a, ⟨k, n, kf⟩, l, r, ks⟩ := p; have HV : Hid (PRep w0 (.mk a (.mk k n kf) l r ks) v) := hv; have hpr := hv.parts; obtain ⟨sf, cf, al, cl, ar, cr, sl, cap, rfl, -, hrf, -⟩ := hpr; (have HRf : Hid (Rep w0 (fun _ => True) (.mk k n kf) (.agg #[.int .i64 k, .string n, .slice sf kf.length cf])) := hrf); have HFs : Hid (a.data.toList = cutT → (Fm.mk k n kf).size ≤ 1000) := hf; simp only at hb1 hb2 hb3; obtain ⟨m1, m2, m3⟩ := hm; simp only at m1 m2 m3; have zs := lt_of_block m1; have zd := lt_of_block m2; have zr := lt_of_block m3; (have hs9 : (s0 : Int) ≤ 100000 := by omega); (have hd9 : (d0 : Int) ≤ 100000 := by omega); (have hd8 : (d : Int) ≤ 100000 := by omega); have HM1 : Hid (w.heap[bs]? = some _) := m1; have HM2 : Hid (w.heap[bd]? = some _) := m2; have HM3 : Hid (w.heap[br]? = some _) := m3; obtain ⟨q1, f1⟩ := blk1 m1; obtain ⟨q2, f2⟩ := blk1 m2; have n1 : ¬ bs = bd := h1; (have n2 : ¬ bd = bs := fun e => h1 e.symm); (have n3 : ¬ w.heap.size = bs := by omega); (have n4 : ¬ w.heap.size = bd := by omega); (have n5 : ¬ bs = w.heap.size := by omega); (have n6 : ¬ bd = w.heap.size := by omega); (have n7 : ¬ w.heap.size = br := by omega); (have n8 : ¬ br = w.heap.size := by omega); clear m1 m2 m3 hv hrf hf hb1 hb2 hb3; obtain ⟨W, hW⟩ : ∃ W, W = ((w.setCell ⟨bs, 0, none⟩ (.int .i64 ((s0 : Int) + 1))).setCell ⟨bd, 0, none⟩ (.int .i64 (max (d0 : Int) d))).alloc (.cells #[.string a, .int .i64 k, .string n, .slice sf kf.length cf, .slice al l.length cl, .slice ar r.length cr, .slice sl ks.length cap] 29 (0, 0)) := ⟨_, rfl⟩; (have hZ : ((w.setCell ⟨bs, 0, none⟩ (.int .i64 ((s0 : Int) + 1))).setCell ⟨bd, 0, none⟩ (.int .i64 (max (d0 : Int) d))).heap.size = w.heap.size := by simp [World.setCell])
  have V1 : Hid (W.heap[bs]? = some (.cells #[.int .i64 ((s0 + 1 : Nat) : Int)] 3 (0, 0))) := by
    rw [hW]; refine alloc_keep ?_ _; (rw [Below.heap_setCell _ _ _ _ (by simpa using h1)]); exact set1 HM1.out _
  have V2 : Hid (W.heap[bd]? = some (.cells #[.int .i64 ((max d0 d : Nat) : Int)] 3 (0, 0))) := by
    (have h9 : ((max d0 d : Nat) : Int) = max (d0 : Int) d := by omega); rw [hW, h9]; (exact alloc_keep (set1 ((Below.heap_setCell _ _ _ _ (by simpa using fun e => h1 e.symm)).trans HM2.out) _) _)
  have V3 : Hid (W.heap[br]? = some (.cells #[.int .i64 (r0 : Nat)] 3 (0, 0))) := by
    rw [hW]; refine alloc_keep ?_ _; (rw [Below.heap_setCell _ _ _ _ (by simpa using fun e => h3 e.symm), Below.heap_setCell _ _ _ _ (by simpa using fun e => h2 e.symm)]); exact HM3.out
  have V0 : Hid (W.heap[w.heap.size]? = some (.cells #[.string a, .int .i64 k, .string n, .slice sf kf.length cf, .slice al l.length cl, .slice ar r.length cr, .slice sl ks.length cap] 29 (0, 0))) := by
    rw [hW, ← hZ]; exact blk_new _ _
  have HKW : Hid (KB3 bs bd br w W) := by
    rw [hW]; (exact (((Kept.refl _ w).setCell (fun _ h => h.1 rfl) _).setCell (fun _ h => h.2.1 rfl) _).alloc _)
  have HB0 : Hid (Below w0.heap.size w0 W) := by
    have hk := HKW.out; (exact ⟨hk.os.trans hw0.os, hk.tape.trans hw0.tape, hk.output.trans hw0.output, Nat.le_trans hw0.size hk.size, fun b hb => (hk.block b (Nat.lt_of_lt_of_le hb hw0.size) ⟨by omega, by omega, by omega⟩).trans (hw0.block b hb)⟩)
  have HWe : Hid (((w.setCell ⟨bs, 0, none⟩ (.int .i64 ((s0 : Int) + 1))).setCell ⟨bd, 0, none⟩ (.int .i64 (max (d0 : Int) d))).alloc (.cells #[.string a, .int .i64 k, .string n, .slice sf kf.length cf, .slice al l.length cl, .slice ar r.length cr, .slice sl ks.length cap] 29 (0, 0)) = W) := hW.symm; clear hw0 hB HV hW hZ; by_cases hc : a.data.toList = cutT
  · have hae : a = ⟨#[99, 117, 116]⟩ := by
      obtain ⟨ad⟩ := a; have : ad = #[99, 117, 116] := Array.ext' hc; rw [this]
    have hsz := HFs.out hc; (have HN : Hid (∀ v W, FL W v [.mk k n kf] → Calls Try.prog 34 #[v] W fun e w' => e = .returned (.int .i64 ((Fm.mk k n kf).size : Nat)) ∧ Below W.heap.size W w') := fun v W h => nodesIn_one _ hsz v W h)
    have HMs : Hid (mstep (.mk a (.mk k n kf) l r ks, d) (s0, d0, r0) = (s0 + 1, max d0 d, max r0 (Fm.mk k n kf).size)) := by
      (show (_, _, if a.data.toList = cutT then _ else _) = _); rw [if_pos hc]; rfl
    generalize (Fm.mk k n kf).size = S at *; subst hae; clear hc HFs
    go_enter Try.func33, Try.ntmps33
    go_wp2_with fail; rw [HWe.out]; clear HWe q1 f1 q2 f2; obtain ⟨q3, f3⟩ := blk1 V3.out; have x3 := lt_of_block V3.out; obtain ⟨j0, j1, j2, j3, -⟩ := blk7 V0.out; have x0 : w.heap.size < W.heap.size := lt_of_block V0.out; have HBn : Hid (Below W.heap.size W (W.alloc (.cells #[.int .i64 k, .string n, .slice sf kf.length cf] 24 (0, 0))).drew) := (below_more (Below.refl _ W) _).drew; have HFL : Hid (FL (W.alloc (.cells #[.int .i64 k, .string n, .slice sf kf.length cf] 24 (0, 0))).drew (.slice (some ⟨W.heap.size, 0, none⟩) 1 1) [.mk k n kf]) := FL.sing (w := (W.alloc (.cells #[.int .i64 k, .string n, .slice sf kf.length cf] 24 (0, 0))).drew) (show (W.alloc (.cells #[.int .i64 k, .string n, .slice sf kf.length cf] 24 (0, 0))).drew.heap[W.heap.size]? = some _ from blk_new W _) ((HRf.out.up HB0.out).up HBn.out)
    go_region_law
      (first
       | (go_simp
          refine (HN.out _ _ HFL.out).mono ?_; rintro e w1 ⟨rfl, hb1⟩; have HB1 : Hid (Below W.heap.size W w1) := below_join HBn.out hb1; obtain ⟨t3, u3⟩ := blk1 (below_keep HB1.out V3.out); have x4 := lt_of_block (below_keep HB1.out V3.out); clear hb1
          dsimp only)
       | fail)
    all_goals
      go_wp2_with fail
      go_end0
      rw [HMs.out]; (have e9 : ((max r0 S : Nat) : Int) = max (r0 : Int) S := by omega); refine ⟨rfl, ⟨?_, ?_, ?_⟩, ?_⟩
      · rw [Below.heap_setCell _ _ _ _ (by simpa using h2)]
        exact below_keep HB1.out V1.out
      · rw [Below.heap_setCell _ _ _ _ (by simpa using h3)]
        exact below_keep HB1.out V2.out
      · show _ = some (Obj.cells #[Value.int .i64 ((max r0 S : Nat) : Int)] 3 (0, 0))
        rw [e9]; exact set1 (below_keep HB1.out V3.out) _
      · exact (Kept.trans HKW.out (kept_of_below HB1.out fun _ h _ => h)).setCell (fun _ h => h.2.2 rfl) _
  · have hq : (a.toList == ([99, 117, 116] : List UInt8)) = false := by rw [ByteArray.toList_eq]; simpa [cutT] using hc
    have HMs : Hid (mstep (.mk a (.mk k n kf) l r ks, d) (s0, d0, r0) = (s0 + 1, max d0 d, r0)) := by
      (show (_, _, if a.data.toList = cutT then _ else _) = _); rw [if_neg hc]
    clear hc HFs
    go_enter Try.func33, Try.ntmps33
    go_wp2_with fail; rw [HWe.out]
    go_end0
    rw [HMs.out]; exact ⟨rfl, ⟨V1.out, V2.out, V3.out⟩, HKW.out⟩
end Go.Proofs.Ytffkoiemnchdgae
