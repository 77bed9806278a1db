/- Texts of one proof, one behind the other: MS8. -/
import Derived.Test.YtfhbpfgbnfcdaagB29
import Derived.Test.YtfhbpfgbnfcdaagB26
import Derived.Test.YtfhbpfgbnfcdaagB09
import Derived.Test.YtfhbpfgbnfcdaagB15
/- The law ModalShapes, walked. -/
namespace Go.Proofs.Ytfhbpfgbnfcdaag
open Go.RowKit

/-- A new formula, zero. -/
def kZf (A : Nat) : Value → World → Prop := fun v w => ∃ b, v = .pointer (some ⟨b, 0, none⟩) ∧ A ≤ b ∧ w.heap[b]? = some (.cells #[.int .i64 0, .string ⟨#[]⟩, .slice none 0 0] 28 (0, 0))
theorem kZf_stays (A : Nat) : Stays (kZf A) := fun _ _ _ ⟨b, e, h1, h2⟩ hb => ⟨b, e, h1, below_keep hb h2⟩
theorem fine_kindM {k : Int} {n : ByteArray} {ks : List Fm} (h : Fine (.mk k n ks)) : k ≠ 0 := by
  rcases h.forms with ⟨m, e, -⟩ | e | e | ⟨k', g, h1, e, -⟩ | ⟨k', g, g', h1, e, -⟩
  all_goals
    cases e
    omega
/-- A zero block is no part of a formula that is fine. -/
theorem Rep.offZ {w : World} {P : Nat → Prop} {b : Nat} {T : TypeId} (hz : w.heap[b]? = some (.cells #[.int .i64 0, .string ⟨#[]⟩, .slice none 0 0] T (0, 0))) : ∀ {f : Fm} {v : Value}, Fine f → Rep w P f v → Rep w (fun c => P c ∧ c ≠ b) f v := by
  have key : ∀ (m : Nat) (f : Fm) (v : Value), f.size < m → Fine f → Rep w P f v → Rep w (fun c => P c ∧ c ≠ b) f v := by
    intro m
    induction m with
    | zero => intro f v h; exact absurd h (Nat.not_lt_zero _)
    | succ m ih =>
      intro f v hm hf hr; obtain ⟨k, n, ks⟩ := f; obtain ⟨sl, cap, h1, h2, h3, h4, h5⟩ := Rep.def.1 hr; (refine Rep.def.2 ⟨sl, cap, h1, h2, h3, h4, fun hne => ?_⟩); obtain ⟨c, off, h6, h7, h8⟩ := h5 hne
      have hks : ∀ (off : Nat) (fs : List Fm), (∀ g ∈ fs, g ∈ ks) → Reps w P c off fs → Reps w (fun c => P c ∧ c ≠ b) c off fs := by
        intro off fs
        induction fs generalizing off with
        | nil => intro _ _; exact Reps.nil
        | cons g gs ih2 =>
          intro hs hr; obtain ⟨⟨c0, c1, c2, a0, a1, a2, hg⟩, hgs⟩ := Reps.cons.1 hr; (have hgk := hs g (by simp)); obtain ⟨i, hi⟩ := List.getElem?_of_mem hgk; (refine Reps.cons.2 ⟨⟨c0, c1, c2, a0, a1, a2, ih g _ ?_ (hf.kid i g hi) hg⟩, ih2 _ (fun x hx => hs x (by simp [hx])) hgs⟩); have := kid_size (k := k) (n := n) hi; omega
      (refine ⟨c, off, h6, ⟨h7, fun e => ?_⟩, hks off ks (fun _ h => h) h8⟩); subst e; (obtain ⟨g, gs, rfl⟩ : ∃ g gs, ks = g :: gs := by cases ks with | nil => exact absurd rfl hne | cons g gs => exact ⟨g, gs, rfl⟩); obtain ⟨⟨c0, c1, c2, a0, a1, a2, hg⟩, -⟩ := Reps.cons.1 h8; obtain ⟨k', n', ks'⟩ := g; obtain ⟨sl', cap', e', -⟩ := Rep.def.1 hg; simp only [Value.agg.injEq, Array.mk.injEq, List.cons.injEq, and_true] at e'; obtain ⟨rfl, rfl, rfl⟩ := e'; rw [blk_cell hz] at a0; have hk0 := fine_kindM (hf.kid 0 (.mk k' n' ks') rfl)
      rcases off with _ | _ | _ | off
      · simp at a0; exact hk0 a0.symm
      · simp at a0
      · simp at a0
      · simp at a0
  intro f v hf hr; exact key (f.size + 1) f v (Nat.lt_succ_self _) hf hr
/-- A formula that is fine stays where a zero block is written. -/
theorem rep_put3 {w : World} {b : Nat} {T : TypeId} (hz : w.heap[b]? = some (.cells #[.int .i64 0, .string ⟨#[]⟩, .slice none 0 0] T (0, 0))) {f : Fm} {v : Value} (hf : Fine f) (hr : Rep w (fun _ => True) f v) (y0 y1 y2 : Value) : Rep (((w.setCell ⟨b, 0, none⟩ y0).setCell ⟨b, 1, none⟩ y1).setCell ⟨b, 2, none⟩ y2) (fun _ => True) f v := by
  have h1 := Rep.offZ hz hf hr; (have hk : Kept (fun c => True ∧ c ≠ b) w (((w.setCell ⟨b, 0, none⟩ y0).setCell ⟨b, 1, none⟩ y1).setCell ⟨b, 2, none⟩ y2) := (((Kept.refl _ w).setCell (p := ⟨b, 0, none⟩) (fun _ h => h.2 rfl) _).setCell (p := ⟨b, 1, none⟩) (fun _ h => h.2 rfl) _).setCell (p := ⟨b, 2, none⟩) (fun _ h => h.2 rfl) _); (exact (h1.kept hk).weak fun _ _ _ => trivial)
theorem fP_fine : Fine fPm := Fine.mk _ _ _ (by decide +kernel) fun i f h => by simp at h
theorem bx_fine {f : Fm} (h : Fine f) : Fine (bx f) := Fine.mk _ _ _ (by rfl) fun i g hg => by
  match i, hg with
  | 0, hg => simp at hg; rw [← hg]; exact h
  | i + 1, hg => simp at hg
theorem di_fine {f : Fm} (h : Fine f) : Fine (di f) := Fine.mk _ _ _ (by rfl) fun i g hg => by
  match i, hg with
  | 0, hg => simp at hg; rw [← hg]; exact h
  | i + 1, hg => simp at hg
/-- Six formulas in a row. -/
theorem six_reps {w : World} {b : Nat} {k1 k2 k3 k4 k5 k6 : Int} {n1 n2 n3 n4 n5 n6 : ByteArray} {s1 s2 s3 s4 s5 s6 : Value} {f1 f2 f3 f4 f5 f6 : Fm} (h : w.heap[b]? = some (.cells #[.int .i64 k1, .string n1, s1, .int .i64 k2, .string n2, s2, .int .i64 k3, .string n3, s3, .int .i64 k4, .string n4, s4, .int .i64 k5, .string n5, s5, .int .i64 k6, .string n6, s6] 28 (0, 0)))
    (h1 : Rep w (fun _ => True) f1 (.agg #[.int .i64 k1, .string n1, s1])) (h2 : Rep w (fun _ => True) f2 (.agg #[.int .i64 k2, .string n2, s2])) (h3 : Rep w (fun _ => True) f3 (.agg #[.int .i64 k3, .string n3, s3])) (h4 : Rep w (fun _ => True) f4 (.agg #[.int .i64 k4, .string n4, s4])) (h5 : Rep w (fun _ => True) f5 (.agg #[.int .i64 k5, .string n5, s5])) (h6 : Rep w (fun _ => True) f6 (.agg #[.int .i64 k6, .string n6, s6])) : Reps w (fun _ => True) b 0 [f1, f2, f3, f4, f5, f6] :=
  Reps.cons.2 ⟨⟨_, _, _, blk_cell h 0, blk_cell h 1, blk_cell h 2, h1⟩, Reps.cons.2 ⟨⟨_, _, _, blk_cell h 3, blk_cell h 4, blk_cell h 5, h2⟩, Reps.cons.2 ⟨⟨_, _, _, blk_cell h 6, blk_cell h 7, blk_cell h 8, h3⟩, Reps.cons.2 ⟨⟨_, _, _, blk_cell h 9, blk_cell h 10, blk_cell h 11, h4⟩, Reps.cons.2 ⟨⟨_, _, _, blk_cell h 12, blk_cell h 13, blk_cell h 14, h5⟩, Reps.cons.2 ⟨⟨_, _, _, blk_cell h 15, blk_cell h 16, blk_cell h 17, h6⟩, Reps.nil⟩⟩⟩⟩⟩⟩
theorem rowE4 (l : List Value) (h0 : l.length = 4) : ∃ x0 x1 x2 x3, l = [x0, x1, x2, x3] := by
  obtain ⟨x0, l1, e0, h1⟩ := cons_lenM h0; obtain ⟨x1, l2, e1, h2⟩ := cons_lenM h1; obtain ⟨x2, l3, e2, h3⟩ := cons_lenM h2; obtain ⟨x3, l4, e3, h4⟩ := cons_lenM h3; have e4 : l4 = [] := List.length_eq_zero_iff.1 h4; subst e4 e3 e2 e1 e0; exact ⟨x0, x1, x2, x3, rfl⟩
theorem rowE25 (l : List Value) (h0 : l.length = 25) : ∃ x0 x1 x2 x3 x4 x5 x6 x7 x8 x9 x10 x11 x12 x13 x14 x15 x16 x17 x18 x19 x20 x21 x22 x23 x24, l = [x0, x1, x2, x3, x4, x5, x6, x7, x8, x9, x10, x11, x12, x13, x14, x15, x16, x17, x18, x19, x20, x21, x22, x23, x24] := by
  obtain ⟨x0, l1, e0, h1⟩ := cons_lenM h0; obtain ⟨x1, l2, e1, h2⟩ := cons_lenM h1; obtain ⟨x2, l3, e2, h3⟩ := cons_lenM h2; obtain ⟨x3, l4, e3, h4⟩ := cons_lenM h3; obtain ⟨x4, l5, e4, h5⟩ := cons_lenM h4; obtain ⟨x5, l6, e5, h6⟩ := cons_lenM h5; obtain ⟨x6, l7, e6, h7⟩ := cons_lenM h6; obtain ⟨x7, l8, e7, h8⟩ := cons_lenM h7; obtain ⟨x8, l9, e8, h9⟩ := cons_lenM h8; obtain ⟨x9, l10, e9, h10⟩ := cons_lenM h9; obtain ⟨x10, l11, e10, h11⟩ := cons_lenM h10; obtain ⟨x11, l12, e11, h12⟩ := cons_lenM h11; obtain ⟨x12, l13, e12, h13⟩ := cons_lenM h12; obtain ⟨x13, l14, e13, h14⟩ := cons_lenM h13; obtain ⟨x14, l15, e14, h15⟩ := cons_lenM h14; obtain ⟨x15, l16, e15, h16⟩ := cons_lenM h15; obtain ⟨x16, l17, e16, h17⟩ := cons_lenM h16; obtain ⟨x17, l18, e17, h18⟩ := cons_lenM h17; obtain ⟨x18, l19, e18, h19⟩ := cons_lenM h18; obtain ⟨x19, l20, e19, h20⟩ := cons_lenM h19; obtain ⟨x20, l21, e20, h21⟩ := cons_lenM h20; obtain ⟨x21, l22, e21, h22⟩ := cons_lenM h21; obtain ⟨x22, l23, e22, h23⟩ := cons_lenM h22; obtain ⟨x23, l24, e23, h24⟩ := cons_lenM h23; obtain ⟨x24, l25, e24, h25⟩ := cons_lenM h24; have e25 : l25 = [] := List.length_eq_zero_iff.1 h25; subst e25 e24 e23 e22 e21 e20 e19 e18 e17 e16 e15 e14 e13 e12 e11 e10 e9 e8 e7 e6 e5 e4 e3 e2 e1 e0; exact ⟨x0, x1, x2, x3, x4, x5, x6, x7, x8, x9, x10, x11, x12, x13, x14, x15, x16, x17, x18, x19, x20, x21, x22, x23, x24, rfl⟩
theorem rowT9 (l : List Value) (h0 : l.length = 9) : ∃ x0 x1 x2 x3 x4 x5 x6 x7 x8, l = [x0, x1, x2, x3, x4, x5, x6, x7, x8] := by
  obtain ⟨x0, l1, e0, h1⟩ := cons_lenM h0; obtain ⟨x1, l2, e1, h2⟩ := cons_lenM h1; obtain ⟨x2, l3, e2, h3⟩ := cons_lenM h2; obtain ⟨x3, l4, e3, h4⟩ := cons_lenM h3; obtain ⟨x4, l5, e4, h5⟩ := cons_lenM h4; obtain ⟨x5, l6, e5, h6⟩ := cons_lenM h5; obtain ⟨x6, l7, e6, h7⟩ := cons_lenM h6; obtain ⟨x7, l8, e7, h8⟩ := cons_lenM h7; obtain ⟨x8, l9, e8, h9⟩ := cons_lenM h8; have e9 : l9 = [] := List.length_eq_zero_iff.1 h9; subst e9 e8 e7 e6 e5 e4 e3 e2 e1 e0; exact ⟨x0, x1, x2, x3, x4, x5, x6, x7, x8, rfl⟩
theorem six_get {i : Nat} (h : i < 6) : six[i]? = some (sixF i) := by
  match i, h with
  | 0, _ => rfl
  | 1, _ => rfl
  | 2, _ => rfl
  | 3, _ => rfl
  | 4, _ => rfl
  | 5, _ => rfl
set_option maxRecDepth 10000 in
set_option maxHeartbeats 8000000 in
theorem shapes_law (m : Mdl) (v : Value) (w : World) (hm : MR w m v) :
    Calls Try.prog 4 #[v] w fun e w' => e = .returned (.bool true) ∧ Below w.heap.size w w' := by
  (have HBe : Hid (∀ W, Calls Try.prog 7 #[] W _) := fun W => modalBegun_any W); (have HSh : Hid (∀ W, MR W m v → Calls Try.prog 12 #[v] W _) := fun W h => Shape_any m v W h); have HRm : Hid (MR w m v) := hm
  have HSv : Hid ((mdcode 40 2000 m).1 = 0 → m.n ≤ 8 → ∀ k, k < 6 → ∀ u W, MR W m v → Rep W (fun _ => True) (sixF k) u → Calls Try.prog 11 #[v, u] W fun e w' => e = .returned (.tuple #[.bool (shV m k), .agg #[.int .i64 0, .int .i64 0]]) ∧ Below W.heap.size W w') := fun h0 h8 k hk u W hW hu => by
    obtain ⟨N, hn, -, hN, hr, ht, hin⟩ := mdcode_in h0; (have e : shV m k = shN m.n.toNat (relB m.rel) k := by unfold shV; rw [if_pos h0]; rfl); rw [e]; obtain ⟨n, rel, tr⟩ := m; simp only at hn hr ht hin h8; subst hn; have hc := six_code hk; (have hmf : mfcode ⟨(N : Int), rel, tr⟩ (sixF k) = (0, 0) := by unfold mfcode; rw [if_pos h0]; exact hc); (refine (hold_ok N (by omega) rel (by omega) hin tr (sixF k) (mf_ok (by rw [hmf])).2.2.2 hc hmf v u W hW hu).mono ?_); rintro e w' ⟨h1, -, hb⟩; refine ⟨?_, hb⟩; (rw [h1 (by rw [six_names hk]; simp; omega), six_holds hk]); rfl
  (have HCz : Hid ((mdcode 40 2000 m).1 = 0 → (mdcode 40 2000 m).2 = 0) := fun h => by rw [mdcode_two h]); obtain ⟨ra, rc, ta, tc, rfl, -⟩ := hm; obtain ⟨sv, hsv⟩ : ∃ sv, sv = shV m := ⟨_, rfl⟩; rw [← hsv] at HSh HSv; clear hsv; obtain ⟨b0, hb0⟩ : ∃ b, sv 0 = b := ⟨_, rfl⟩; obtain ⟨b1, hb1⟩ : ∃ b, sv 1 = b := ⟨_, rfl⟩; obtain ⟨b2, hb2⟩ : ∃ b, sv 2 = b := ⟨_, rfl⟩; obtain ⟨b3, hb3⟩ : ∃ b, sv 3 = b := ⟨_, rfl⟩; obtain ⟨b4, hb4⟩ : ∃ b, sv 4 = b := ⟨_, rfl⟩; obtain ⟨b5, hb5⟩ : ∃ b, sv 5 = b := ⟨_, rfl⟩; rw [hb0, hb1, hb2, hb3, hb4, hb5] at HSh
  have HSi : Hid (∀ i, i < 6 → (#[.bool b0, .bool b1, .bool b2, .bool b3, .bool b4, .bool b5] : Array Value)[i]? = some (.bool (sv i))) := fun i hi => by
    match i, hi with
    | 0, _ => rw [hb0]; rfl
    | 1, _ => rw [hb1]; rfl
    | 2, _ => rw [hb2]; rfl
    | 3, _ => rw [hb3]; rfl
    | 4, _ => rw [hb4]; rfl
    | 5, _ => rw [hb5]; rfl
  clear hb0 hb1 hb2 hb3 hb4 hb5; generalize mdcode 40 2000 m = md at *; obtain ⟨c, a⟩ := md; obtain ⟨W, hW⟩ : ∃ W, W = w.alloc (.cells #[.int .i64 m.n, .slice ra m.rel.length rc, .slice ta m.tr.length tc] 25 (0, 0)) := ⟨_, rfl⟩; (have HB0 : Hid (Below w.heap.size w W) := by rw [hW]; exact below_more (Below.refl _ w) _); (have HM0 : Hid (W.heap[w.heap.size]? = some (.cells #[.int .i64 m.n, .slice ra m.rel.length rc, .slice ta m.tr.length tc] 25 (0, 0))) := by rw [hW]; exact blk_new _ _)
  go_enter Try.func4, Try.ntmps4
  go_wp2_with fail; rw [← hW]; refine (HBe.out _).mono ?_; rintro _ w1 ⟨rfl, hb1⟩; have HB1 : Hid (Below w.heap.size w w1) := below_join HB0.out hb1; have HM1 : Hid (w1.heap[w.heap.size]? = some (.cells #[.int .i64 m.n, .slice ra m.rel.length rc, .slice ta m.tr.length tc] 25 (0, 0))) := below_keep hb1 HM0.out; clear hb1 hW HBe HB0 HM0; obtain ⟨k0, k1, k2, -⟩ := blk3 HM1.out; go_wp2_with fail; refine (HSh.out _ (HRm.out.up HB1.out)).mono ?_; rintro _ w2 ⟨rfl, hb2⟩; have HB2 : Hid (Below w.heap.size w w2) := below_join HB1.out hb2; have HM2 : Hid (w2.heap[w.heap.size]? = some (.cells #[.int .i64 m.n, .slice ra m.rel.length rc, .slice ta m.tr.length tc] 25 (0, 0))) := below_keep hb2 HM1.out; clear hb2 HSh HB1 HM1 k0 k1 k2; obtain ⟨X, hX⟩ : ∃ X, (w2.alloc (.cells #[.bool b0, .bool b1, .bool b2, .bool b3, .bool b4, .bool b5] 39 (0, 0))).alloc (.cells #[.int .i64 c, .int .i64 a] 34 (0, 0)) = X := ⟨_, rfl⟩; (have HBX : Hid (Below w.heap.size w X) := by rw [← hX]; exact below_more (below_more HB2.out _) _); (have HMX : Hid (X.heap[w.heap.size]? = some (.cells #[.int .i64 m.n, .slice ra m.rel.length rc, .slice ta m.tr.length tc] 25 (0, 0))) := by rw [← hX]; exact alloc_keep (alloc_keep HM2.out _) _); (have HSX : Hid (X.heap[w2.heap.size]? = some (.cells #[.bool b0, .bool b1, .bool b2, .bool b3, .bool b4, .bool b5] 39 (0, 0))) := by rw [← hX]; exact alloc_keep (blk_new _ _) _); (obtain ⟨f0, f1, -⟩ := blk2 (show X.heap[w2.heap.size + 1]? = some (.cells #[.int .i64 c, .int .i64 a] 34 (0, 0)) by rw [← hX]; exact blk_secE _ _ _)); obtain ⟨k0, k1, k2, -⟩ := blk3 HMX.out; by_cases hc : c = 0
  case neg =>
    (have hc1 : (c != 0) = true := by simpa using hc); go_wp2_with fail; go_ret; exact ⟨rfl, HBX.out⟩
  subst hc; by_cases h8 : m.n ≤ 8
  case neg =>
    (have hI : (8 : Int) < m.n := by omega); go_wp2_with fail; go_ret; exact ⟨rfl, HBX.out⟩
  (have hI : decide ((8 : Int) < m.n) = false := by rw [decide_eq_false_iff_not]; omega); (have HHo : Hid (∀ k, k < 6 → ∀ u W, MR W m (.agg #[.int .i64 m.n, .slice ra m.rel.length rc, .slice ta m.tr.length tc]) → Rep W (fun _ => True) (sixF k) u → Calls Try.prog 11 #[(.agg #[.int .i64 m.n, .slice ra m.rel.length rc, .slice ta m.tr.length tc]), u] W fun e w' => e = .returned (.tuple #[.bool (sv k), .agg #[.int .i64 0, .int .i64 0]]) ∧ Below W.heap.size W w') := HSv.out rfl h8); (have HNa : Hid (∀ W, Calls Try.prog 22 #[.string nPm] W _) := fun W => named_any nPm W); clear HSv HCz h8; go_wp2_with fail; refine (HNa.out X).mono ?_; rintro _ w3 ⟨rfl, hb3⟩; have HB3 : Hid (Below w.heap.size w w3) := below_join HBX.out hb3; have HM3 : Hid (w3.heap[w.heap.size]? = some (.cells #[.int .i64 m.n, .slice ra m.rel.length rc, .slice ta m.tr.length tc] 25 (0, 0))) := below_keep hb3 HMX.out; have HS3 : Hid (w3.heap[w2.heap.size]? = some (.cells #[.bool b0, .bool b1, .bool b2, .bool b3, .bool b4, .bool b5] 39 (0, 0))) := below_keep hb3 HSX.out; clear hb3 hX f0 f1 k0 k1 k2 hI HBX HMX HSX; go_wp2_with fail; obtain ⟨Y, hY⟩ : ∃ Y, Y = w3.alloc (.cells #[.int .i64 1, .string nPm, .slice none 0 0] 28 (0, 0)) := ⟨_, rfl⟩; (have HBY : Hid (Below w.heap.size w Y) := by rw [hY]; exact below_more HB3.out _); (have HMY : Hid (Y.heap[w.heap.size]? = some (.cells #[.int .i64 m.n, .slice ra m.rel.length rc, .slice ta m.tr.length tc] 25 (0, 0))) := by rw [hY]; exact alloc_keep HM3.out _); (have HSY : Hid (Y.heap[w2.heap.size]? = some (.cells #[.bool b0, .bool b1, .bool b2, .bool b3, .bool b4, .bool b5] 39 (0, 0))) := by rw [hY]; exact alloc_keep HS3.out _); (have HPY : Hid (Y.heap[w3.heap.size]? = some (.cells #[.int .i64 1, .string nPm, .slice none 0 0] 28 (0, 0))) := by rw [hY]; exact blk_new _ _); rw [← hY]; clear hY HB3 HM3 HS3; (refine wp_region_new2 (fun i => i == 4 || i == 5) (by kernel_rfl) [fun v _ => v = (.agg #[.int .i64 1, .string nPm, .slice none 0 0]), kR (.mk 8 ⟨#[]⟩ [fPm]), fun v _ => v = (.agg #[.int .i64 1, .string nPm, .slice none 0 0]), kR (.mk 9 ⟨#[]⟩ [fPm]), kZf Y.heap.size, kZf Y.heap.size] ?_ (by kernel_rfl) (by kernel_rfl) 80 rfl (by kernel_rfl) 6 _ _ rfl rfl rfl (by kernel_rfl) (by kernel_rfl) ?_ ?_)
  · intro p hp
    simp only [List.mem_cons, List.not_mem_nil, or_false] at hp
    rcases hp with rfl | rfl | rfl | rfl | rfl | rfl
    · exact fun _ _ _ h _ => h
    · exact kR_stays _
    · exact fun _ _ _ h _ => h
    · exact kR_stays _
    · exact kZf_stays _
    · exact kZf_stays _
  · refine ⟨?_, ?_, ?_, ?_, ?_, ?_, trivial⟩
    · intro a wx hB hold hdep K hK
      have t5 : a.tmps[5]? = some (.pointer (some ⟨w3.heap.size, 0, none⟩)) := hold.2.2 5 rfl; obtain ⟨k0, k1, k2, -⟩ := blk3 (below_keep hB HPY.out); clear hold hdep; go_simp; (exact hK.out _ _ rfl (Below.refl _ _) (fun h => absurd h (by decide)))
    · intro a wx hB hold hdep K hK
      obtain ⟨v28, t28, p28⟩ := hdep 0 rfl _ 28 rfl rfl; have e28 : v28 = (.agg #[.int .i64 1, .string nPm, .slice none 0 0]) := p28; subst e28; (have HW : Hid (Calls Try.prog 23 #[.int .i64 8, (.agg #[.int .i64 1, .string nPm, .slice none 0 0])] wx _) := ofP_any (fun _ => True) 8 (fPm) _ wx (fun _ _ => trivial) (Rep.leaf (by decide))); clear hold hdep; go_simp; refine HW.out.mono ?_; rintro _ w9 ⟨x9, rfl, hr9, hb9⟩; (have H9 : Hid (Rep w9 (fun _ => True) (.mk 8 ⟨#[]⟩ [fPm]) x9) := hr9); clear hr9; go_simp; (exact hK.out _ _ H9.out hb9 (fun h => absurd h (by decide)))
    · intro a wx hB hold hdep K hK
      have t5 : a.tmps[5]? = some (.pointer (some ⟨w3.heap.size, 0, none⟩)) := hold.2.2 5 rfl; obtain ⟨k0, k1, k2, -⟩ := blk3 (below_keep hB HPY.out); clear hold hdep; go_simp; (exact hK.out _ _ rfl (Below.refl _ _) (fun h => absurd h (by decide)))
    · intro a wx hB hold hdep K hK
      obtain ⟨v30, t30, p30⟩ := hdep 2 rfl _ 30 rfl rfl; have e30 : v30 = (.agg #[.int .i64 1, .string nPm, .slice none 0 0]) := p30; subst e30; (have HW : Hid (Calls Try.prog 23 #[.int .i64 9, (.agg #[.int .i64 1, .string nPm, .slice none 0 0])] wx _) := ofP_any (fun _ => True) 9 (fPm) _ wx (fun _ _ => trivial) (Rep.leaf (by decide))); clear hold hdep; go_simp; refine HW.out.mono ?_; rintro _ w9 ⟨x9, rfl, hr9, hb9⟩; (have H9 : Hid (Rep w9 (fun _ => True) (.mk 9 ⟨#[]⟩ [fPm]) x9) := hr9); clear hr9; go_simp; (exact hK.out _ _ H9.out hb9 (fun h => absurd h (by decide)))
    · intro a wx hB hold hdep K hK
      have HA : Hid (Y.heap.size ≤ wx.heap.size) := hB.size; clear hold hdep; go_simp; (exact hK.out _ _ ⟨_, rfl, HA.out, blk_new _ _⟩ (below_more (Below.refl _ _) _) (fun _ => ⟨_, rfl, Nat.le_refl _, by simp⟩))
    · intro a wx hB hold hdep K hK
      have HA : Hid (Y.heap.size ≤ wx.heap.size) := hB.size; clear hold hdep; go_simp; (exact hK.out _ _ ⟨_, rfl, HA.out, blk_new _ _⟩ (below_more (Below.refl _ _) _) (fun _ => ⟨_, rfl, Nat.le_refl _, by simp⟩))
  · intro a wx hB hold hgot hnew K hK
    (obtain ⟨vX, tvX, pvX⟩ := hgot 1 _ 29 (by omega) rfl rfl); (obtain ⟨vY, tvY, pvY⟩ := hgot 3 _ 31 (by omega) rfl rfl); (obtain ⟨vP, tvP, pvP⟩ := hgot 4 _ 6 (by omega) rfl rfl); (obtain ⟨vQ, tvQ, pvQ⟩ := hgot 5 _ 7 (by omega) rfl rfl); obtain ⟨bB, rfl, hA1, hZ1⟩ := pvP; obtain ⟨bD, rfl, hA2, hZ2⟩ := pvQ; (have hne : bB ≠ bD := hnew 4 5 _ _ 6 7 _ _ (by decide) (by decide) (by decide) rfl rfl rfl rfl rfl rfl tvP tvQ); (have HX29 : Hid (Rep wx (fun _ => True) (bx fPm) vX) := pvX); (have HX31 : Hid (Rep wx (fun _ => True) (di fPm) vY) := pvY); obtain ⟨slB, cpB, rfl⟩ := slice_shape HX29.out; obtain ⟨slD, cpD, rfl⟩ := slice_shape HX31.out; have HBx : Hid (Below Y.heap.size Y wx) := hB; have HZ1 : Hid (wx.heap[bB]? = some (.cells #[.int .i64 0, .string ⟨#[]⟩, .slice none 0 0] 28 (0, 0))) := hZ1; have HZ2 : Hid (wx.heap[bD]? = some (.cells #[.int .i64 0, .string ⟨#[]⟩, .slice none 0 0] 28 (0, 0))) := hZ2; have HA1 : Hid (Y.heap.size ≤ bB) := hA1; have HA2 : Hid (Y.heap.size ≤ bD) := hA2; have HNe : Hid (bB ≠ bD) := hne; obtain ⟨d0, d1, d2, e0, e1, e2⟩ := blk3 HZ1.out; obtain ⟨tm, df⟩ := a; (obtain ⟨ys, zs, hys, hzs, htm, rfl⟩ := frame_two 6 2 20 4 8 28 32 rfl rfl rfl (by kernel_rfl) (Nat.le_of_ble_eq_true rfl) hold); obtain ⟨x6, x7, rfl⟩ := rowE2 ys hys; obtain ⟨x28, x29, x30, x31, rfl⟩ := rowE4 zs hzs; simp only [List.take_succ_cons, List.take_zero, List.drop_succ_cons, List.drop_zero, List.cons_append, List.nil_append] at htm; subst htm; obtain rfl : x6 = _ := someInjM tvP; obtain rfl : x7 = _ := someInjM tvQ; obtain rfl : x29 = _ := someInjM tvX; obtain rfl : x31 = _ := someInjM tvY; clear hys hzs hold hgot tvX tvY tvP tvQ pvX pvY hB hA1 hA2 hZ1 hZ2 hne hnew; go_simp; refine hK.out _ _ ?_; clear hK d0 d1 d2 e0 e1 e2; intro K hK; obtain ⟨G, hG⟩ : ∃ G, G = ((wx.setCell ⟨bB, 0, none⟩ (.int .i64 8)).setCell ⟨bB, 1, none⟩ (.string ⟨#[]⟩)).setCell ⟨bB, 2, none⟩ (.slice slB [fPm].length cpB) := ⟨_, rfl⟩; (have HG1 : Hid (G.heap[bB]? = some (.cells #[.int .i64 8, .string ⟨#[]⟩, .slice slB [fPm].length cpB] 28 (0, 0))) := by rw [hG]; exact set3M HZ1.out _ _ _)
    have HG2 : Hid (G.heap[bD]? = some (.cells #[.int .i64 0, .string ⟨#[]⟩, .slice none 0 0] 28 (0, 0))) := by
      show _ = _; (rw [hG, farM (fun e => HNe.out e.symm), farM (fun e => HNe.out e.symm), farM (fun e => HNe.out e.symm)]); exact HZ2.out
    (have HGb : Hid (Below Y.heap.size Y G) := by rw [hG]; exact ((HBx.out.setCell (p := ⟨bB, 0, none⟩) HA1.out _).setCell (p := ⟨bB, 1, none⟩) HA1.out _).setCell (p := ⟨bB, 2, none⟩) HA1.out _)
    have HGr : Hid (Rep G (fun _ => True) (bx fPm) (.agg #[.int .i64 8, .string ⟨#[]⟩, .slice slB [fPm].length cpB]) ∧ Rep G (fun _ => True) (di fPm) (.agg #[.int .i64 9, .string ⟨#[]⟩, .slice slD [fPm].length cpD])) := by
      rw [hG]; exact ⟨rep_put3 HZ1.out (bx_fine fP_fine) HX29.out _ _ _, rep_put3 HZ1.out (di_fine fP_fine) HX31.out _ _ _⟩
    simp only [List.length_cons, List.length_nil, Nat.zero_add] at hG ⊢; rw [← hG]; clear hG HZ1 HZ2 HX29 HX31 HBx; obtain ⟨d0, d1, d2, e0, e1, e2⟩ := blk3 HG2.out; go_simp; refine hK.out _ _ ?_; clear hK d0 d1 d2 e0 e1 e2; obtain ⟨V, hV⟩ : ∃ V, V = ((G.setCell ⟨bD, 0, none⟩ (.int .i64 9)).setCell ⟨bD, 1, none⟩ (.string ⟨#[]⟩)).setCell ⟨bD, 2, none⟩ (.slice slD 1 cpD) := ⟨_, rfl⟩
    have HV1 : Hid (V.heap[bB]? = some (.cells #[.int .i64 8, .string ⟨#[]⟩, .slice slB 1 cpB] 28 (0, 0))) := by
      show _ = _; rw [hV, farM HNe.out, farM HNe.out, farM HNe.out]; exact HG1.out
    (have HV2 : Hid (V.heap[bD]? = some (.cells #[.int .i64 9, .string ⟨#[]⟩, .slice slD 1 cpD] 28 (0, 0))) := by rw [hV]; exact set3M HG2.out _ _ _); (have HYV : Hid (Below Y.heap.size Y V) := by rw [hV]; exact ((HGb.out.setCell (p := ⟨bD, 0, none⟩) HA2.out _).setCell (p := ⟨bD, 1, none⟩) HA2.out _).setCell (p := ⟨bD, 2, none⟩) HA2.out _)
    have HVr : Hid (Rep V (fun _ => True) (bx fPm) (.agg #[.int .i64 8, .string ⟨#[]⟩, .slice slB 1 cpB]) ∧ Rep V (fun _ => True) (di fPm) (.agg #[.int .i64 9, .string ⟨#[]⟩, .slice slD 1 cpD])) := by
      rw [hV]; exact ⟨rep_put3 HG2.out (bx_fine fP_fine) HGr.out.1 _ _ _, rep_put3 HG2.out (di_fine fP_fine) HGr.out.2 _ _ _⟩
    have HMV : Hid (V.heap[w.heap.size]? = some (.cells #[.int .i64 m.n, .slice ra m.rel.length rc, .slice ta m.tr.length tc] 25 (0, 0))) := below_keep HYV.out HMY.out; have HSV : Hid (V.heap[w2.heap.size]? = some (.cells #[.bool b0, .bool b1, .bool b2, .bool b3, .bool b4, .bool b5] 39 (0, 0))) := below_keep HYV.out HSY.out; have HPV : Hid (V.heap[w3.heap.size]? = some (.cells #[.int .i64 1, .string nPm, .slice none 0 0] 28 (0, 0))) := below_keep HYV.out HPY.out; have HBV : Hid (Below w.heap.size w V) := below_join HBY.out HYV.out; rw [← hV]; clear hV HG1 HG2 HGb HGr HA1 HA2 HNe HYV HMY HSY HPY HBY; go_wp2_with fail; (refine wp_region_last (by kernel_rfl) [fun v _ => v = (.agg #[.int .i64 8, .string ⟨#[]⟩, .slice slB 1 cpB]), fun v _ => v = (.agg #[.int .i64 1, .string nPm, .slice none 0 0]), kR (.mk 7 ⟨#[]⟩ [bx fPm, fPm]), fun v _ => v = (.agg #[.int .i64 8, .string ⟨#[]⟩, .slice slB 1 cpB]), fun v _ => v = (.agg #[.int .i64 8, .string ⟨#[]⟩, .slice slB 1 cpB]), kR (.mk 8 ⟨#[]⟩ [bx fPm]), kR (.mk 7 ⟨#[]⟩ [bx fPm, .mk 8 ⟨#[]⟩ [bx fPm]]), fun v _ => v = (.agg #[.int .i64 1, .string nPm, .slice none 0 0]), fun v _ => v = (.agg #[.int .i64 9, .string ⟨#[]⟩, .slice slD 1 cpD]), kR (.mk 8 ⟨#[]⟩ [di fPm]), kR (.mk 7 ⟨#[]⟩ [fPm, .mk 8 ⟨#[]⟩ [di fPm]]), fun v _ => v = (.agg #[.int .i64 9, .string ⟨#[]⟩, .slice slD 1 cpD]), fun v _ => v = (.agg #[.int .i64 9, .string ⟨#[]⟩, .slice slD 1 cpD]), kR (.mk 8 ⟨#[]⟩ [di fPm]), kR (.mk 7 ⟨#[]⟩ [di fPm, .mk 8 ⟨#[]⟩ [di fPm]]), fun v _ => v = (.agg #[.int .i64 8, .string ⟨#[]⟩, .slice slB 1 cpB]), fun v _ => v = (.agg #[.int .i64 9, .string ⟨#[]⟩, .slice slD 1 cpD]), kR (.mk 7 ⟨#[]⟩ [bx fPm, di fPm]), fun v _ => v = (.agg #[.int .i64 8, .string ⟨#[]⟩, .slice slB 1 cpB]), fun v _ => v = (.agg #[.int .i64 1, .string nPm, .slice none 0 0]), kR (.mk 7 ⟨#[]⟩ [bx fPm, fPm]), kR (.mk 8 ⟨#[]⟩ [.mk 7 ⟨#[]⟩ [bx fPm, fPm]]), fun v _ => v = (.agg #[.int .i64 8, .string ⟨#[]⟩, .slice slB 1 cpB]), kR (.mk 7 ⟨#[]⟩ [.mk 8 ⟨#[]⟩ [.mk 7 ⟨#[]⟩ [bx fPm, fPm]], bx fPm]), fun v w => ∃ b, v = .slice (some ⟨b, 0, none⟩) 6 6 ∧ Reps w (fun _ => True) b 0 six] ?_ (by kernel_rfl) (by kernel_rfl) 80 rfl (by kernel_rfl) 25 _ rfl rfl (by kernel_rfl) ?_ ?_)
    · intro p hp
      simp only [List.mem_cons, List.not_mem_nil, or_false] at hp
      rcases hp with rfl | rfl | rfl | rfl | rfl | rfl | rfl | rfl | rfl | rfl | rfl | rfl | rfl | rfl | rfl | rfl | rfl | rfl | rfl | rfl | rfl | rfl | rfl | rfl | rfl
      · exact fun _ _ _ h _ => h
      · exact fun _ _ _ h _ => h
      · exact kR_stays _
      · exact fun _ _ _ h _ => h
      · exact fun _ _ _ h _ => h
      · exact kR_stays _
      · exact kR_stays _
      · exact fun _ _ _ h _ => h
      · exact fun _ _ _ h _ => h
      · exact kR_stays _
      · exact kR_stays _
      · exact fun _ _ _ h _ => h
      · exact fun _ _ _ h _ => h
      · exact kR_stays _
      · exact kR_stays _
      · exact fun _ _ _ h _ => h
      · exact fun _ _ _ h _ => h
      · exact kR_stays _
      · exact fun _ _ _ h _ => h
      · exact fun _ _ _ h _ => h
      · exact kR_stays _
      · exact kR_stays _
      · exact fun _ _ _ h _ => h
      · exact kR_stays _
      · rintro v w1 w2 ⟨b, e, h⟩ hb
        exact ⟨b, e, h.up hb⟩
    · refine ⟨?_, ?_, ?_, ?_, ?_, ?_, ?_, ?_, ?_, ?_, ?_, ?_, ?_, ?_, ?_, ?_, ?_, ?_, ?_, ?_, ?_, ?_, ?_, ?_, ?_, trivial⟩
      · intro a wx hB hold hdep K hK
        have t6 : a.tmps[6]? = some (.pointer (some ⟨bB, 0, none⟩)) := hold.2.2 6 rfl; obtain ⟨k0, k1, k2, -⟩ := blk3 (below_keep hB HV1.out); clear hold hdep; go_simp; exact hK.out _ _ rfl (Below.refl _ _)
      · intro a wx hB hold hdep K hK
        have t5 : a.tmps[5]? = some (.pointer (some ⟨w3.heap.size, 0, none⟩)) := hold.2.2 5 rfl; obtain ⟨k0, k1, k2, -⟩ := blk3 (below_keep hB HPV.out); clear hold hdep; go_simp; exact hK.out _ _ rfl (Below.refl _ _)
      · intro a wx hB hold hdep K hK
        obtain ⟨v32, t32, p32⟩ := hdep 0 rfl _ 32 rfl rfl; have e32 : v32 = (.agg #[.int .i64 8, .string ⟨#[]⟩, .slice slB 1 cpB]) := p32; subst e32; obtain ⟨v33, t33, p33⟩ := hdep 1 rfl _ 33 rfl rfl; have e33 : v33 = (.agg #[.int .i64 1, .string nPm, .slice none 0 0]) := p33; subst e33; (have HW : Hid (Calls Try.prog 24 #[.int .i64 7, (.agg #[.int .i64 8, .string ⟨#[]⟩, .slice slB 1 cpB]), (.agg #[.int .i64 1, .string nPm, .slice none 0 0])] wx _) := bothP_any (fun _ => True) 7 (bx fPm) (fPm) _ _ wx (fun _ _ => trivial) (HVr.out.1.up hB) (Rep.leaf (by decide))); clear hold hdep; go_simp; refine HW.out.mono ?_; rintro _ w9 ⟨x9, rfl, hr9, hb9⟩; (have H9 : Hid (Rep w9 (fun _ => True) (.mk 7 ⟨#[]⟩ [bx fPm, fPm]) x9) := hr9); clear hr9; go_simp; exact hK.out _ _ H9.out hb9
      · intro a wx hB hold hdep K hK
        have t6 : a.tmps[6]? = some (.pointer (some ⟨bB, 0, none⟩)) := hold.2.2 6 rfl; obtain ⟨k0, k1, k2, -⟩ := blk3 (below_keep hB HV1.out); clear hold hdep; go_simp; exact hK.out _ _ rfl (Below.refl _ _)
      · intro a wx hB hold hdep K hK
        have t6 : a.tmps[6]? = some (.pointer (some ⟨bB, 0, none⟩)) := hold.2.2 6 rfl; obtain ⟨k0, k1, k2, -⟩ := blk3 (below_keep hB HV1.out); clear hold hdep; go_simp; exact hK.out _ _ rfl (Below.refl _ _)
      · intro a wx hB hold hdep K hK
        obtain ⟨v36, t36, p36⟩ := hdep 4 rfl _ 36 rfl rfl; have e36 : v36 = (.agg #[.int .i64 8, .string ⟨#[]⟩, .slice slB 1 cpB]) := p36; subst e36; (have HW : Hid (Calls Try.prog 23 #[.int .i64 8, (.agg #[.int .i64 8, .string ⟨#[]⟩, .slice slB 1 cpB])] wx _) := ofP_any (fun _ => True) 8 (bx fPm) _ wx (fun _ _ => trivial) (HVr.out.1.up hB)); clear hold hdep; go_simp; refine HW.out.mono ?_; rintro _ w9 ⟨x9, rfl, hr9, hb9⟩; (have H9 : Hid (Rep w9 (fun _ => True) (.mk 8 ⟨#[]⟩ [bx fPm]) x9) := hr9); clear hr9; go_simp; exact hK.out _ _ H9.out hb9
      · intro a wx hB hold hdep K hK
        obtain ⟨v35, t35, p35⟩ := hdep 3 rfl _ 35 rfl rfl; have e35 : v35 = (.agg #[.int .i64 8, .string ⟨#[]⟩, .slice slB 1 cpB]) := p35; subst e35; obtain ⟨v37, t37, p37⟩ := hdep 5 rfl _ 37 rfl rfl; have P37 : Hid ((kR (.mk 8 ⟨#[]⟩ [bx fPm])) v37 wx) := p37; clear p37; (have HW : Hid (Calls Try.prog 24 #[.int .i64 7, (.agg #[.int .i64 8, .string ⟨#[]⟩, .slice slB 1 cpB]), v37] wx _) := bothP_any (fun _ => True) 7 (bx fPm) (.mk 8 ⟨#[]⟩ [bx fPm]) _ _ wx (fun _ _ => trivial) (HVr.out.1.up hB) (P37.out)); clear hold hdep; go_simp; refine HW.out.mono ?_; rintro _ w9 ⟨x9, rfl, hr9, hb9⟩; (have H9 : Hid (Rep w9 (fun _ => True) (.mk 7 ⟨#[]⟩ [bx fPm, .mk 8 ⟨#[]⟩ [bx fPm]]) x9) := hr9); clear hr9; go_simp; exact hK.out _ _ H9.out hb9
      · intro a wx hB hold hdep K hK
        have t5 : a.tmps[5]? = some (.pointer (some ⟨w3.heap.size, 0, none⟩)) := hold.2.2 5 rfl; obtain ⟨k0, k1, k2, -⟩ := blk3 (below_keep hB HPV.out); clear hold hdep; go_simp; exact hK.out _ _ rfl (Below.refl _ _)
      · intro a wx hB hold hdep K hK
        have t7 : a.tmps[7]? = some (.pointer (some ⟨bD, 0, none⟩)) := hold.2.2 7 rfl; obtain ⟨k0, k1, k2, -⟩ := blk3 (below_keep hB HV2.out); clear hold hdep; go_simp; exact hK.out _ _ rfl (Below.refl _ _)
      · intro a wx hB hold hdep K hK
        obtain ⟨v40, t40, p40⟩ := hdep 8 rfl _ 40 rfl rfl; have e40 : v40 = (.agg #[.int .i64 9, .string ⟨#[]⟩, .slice slD 1 cpD]) := p40; subst e40; (have HW : Hid (Calls Try.prog 23 #[.int .i64 8, (.agg #[.int .i64 9, .string ⟨#[]⟩, .slice slD 1 cpD])] wx _) := ofP_any (fun _ => True) 8 (di fPm) _ wx (fun _ _ => trivial) (HVr.out.2.up hB)); clear hold hdep; go_simp; refine HW.out.mono ?_; rintro _ w9 ⟨x9, rfl, hr9, hb9⟩; (have H9 : Hid (Rep w9 (fun _ => True) (.mk 8 ⟨#[]⟩ [di fPm]) x9) := hr9); clear hr9; go_simp; exact hK.out _ _ H9.out hb9
      · intro a wx hB hold hdep K hK
        obtain ⟨v39, t39, p39⟩ := hdep 7 rfl _ 39 rfl rfl; have e39 : v39 = (.agg #[.int .i64 1, .string nPm, .slice none 0 0]) := p39; subst e39; obtain ⟨v41, t41, p41⟩ := hdep 9 rfl _ 41 rfl rfl; have P41 : Hid ((kR (.mk 8 ⟨#[]⟩ [di fPm])) v41 wx) := p41; clear p41; (have HW : Hid (Calls Try.prog 24 #[.int .i64 7, (.agg #[.int .i64 1, .string nPm, .slice none 0 0]), v41] wx _) := bothP_any (fun _ => True) 7 (fPm) (.mk 8 ⟨#[]⟩ [di fPm]) _ _ wx (fun _ _ => trivial) (Rep.leaf (by decide)) (P41.out)); clear hold hdep; go_simp; refine HW.out.mono ?_; rintro _ w9 ⟨x9, rfl, hr9, hb9⟩; (have H9 : Hid (Rep w9 (fun _ => True) (.mk 7 ⟨#[]⟩ [fPm, .mk 8 ⟨#[]⟩ [di fPm]]) x9) := hr9); clear hr9; go_simp; exact hK.out _ _ H9.out hb9
      · intro a wx hB hold hdep K hK
        have t7 : a.tmps[7]? = some (.pointer (some ⟨bD, 0, none⟩)) := hold.2.2 7 rfl; obtain ⟨k0, k1, k2, -⟩ := blk3 (below_keep hB HV2.out); clear hold hdep; go_simp; exact hK.out _ _ rfl (Below.refl _ _)
      · intro a wx hB hold hdep K hK
        have t7 : a.tmps[7]? = some (.pointer (some ⟨bD, 0, none⟩)) := hold.2.2 7 rfl; obtain ⟨k0, k1, k2, -⟩ := blk3 (below_keep hB HV2.out); clear hold hdep; go_simp; exact hK.out _ _ rfl (Below.refl _ _)
      · intro a wx hB hold hdep K hK
        obtain ⟨v44, t44, p44⟩ := hdep 12 rfl _ 44 rfl rfl; have e44 : v44 = (.agg #[.int .i64 9, .string ⟨#[]⟩, .slice slD 1 cpD]) := p44; subst e44; (have HW : Hid (Calls Try.prog 23 #[.int .i64 8, (.agg #[.int .i64 9, .string ⟨#[]⟩, .slice slD 1 cpD])] wx _) := ofP_any (fun _ => True) 8 (di fPm) _ wx (fun _ _ => trivial) (HVr.out.2.up hB)); clear hold hdep; go_simp; refine HW.out.mono ?_; rintro _ w9 ⟨x9, rfl, hr9, hb9⟩; (have H9 : Hid (Rep w9 (fun _ => True) (.mk 8 ⟨#[]⟩ [di fPm]) x9) := hr9); clear hr9; go_simp; exact hK.out _ _ H9.out hb9
      · intro a wx hB hold hdep K hK
        obtain ⟨v43, t43, p43⟩ := hdep 11 rfl _ 43 rfl rfl; have e43 : v43 = (.agg #[.int .i64 9, .string ⟨#[]⟩, .slice slD 1 cpD]) := p43; subst e43; obtain ⟨v45, t45, p45⟩ := hdep 13 rfl _ 45 rfl rfl; have P45 : Hid ((kR (.mk 8 ⟨#[]⟩ [di fPm])) v45 wx) := p45; clear p45; (have HW : Hid (Calls Try.prog 24 #[.int .i64 7, (.agg #[.int .i64 9, .string ⟨#[]⟩, .slice slD 1 cpD]), v45] wx _) := bothP_any (fun _ => True) 7 (di fPm) (.mk 8 ⟨#[]⟩ [di fPm]) _ _ wx (fun _ _ => trivial) (HVr.out.2.up hB) (P45.out)); clear hold hdep; go_simp; refine HW.out.mono ?_; rintro _ w9 ⟨x9, rfl, hr9, hb9⟩; (have H9 : Hid (Rep w9 (fun _ => True) (.mk 7 ⟨#[]⟩ [di fPm, .mk 8 ⟨#[]⟩ [di fPm]]) x9) := hr9); clear hr9; go_simp; exact hK.out _ _ H9.out hb9
      · intro a wx hB hold hdep K hK
        have t6 : a.tmps[6]? = some (.pointer (some ⟨bB, 0, none⟩)) := hold.2.2 6 rfl; obtain ⟨k0, k1, k2, -⟩ := blk3 (below_keep hB HV1.out); clear hold hdep; go_simp; exact hK.out _ _ rfl (Below.refl _ _)
      · intro a wx hB hold hdep K hK
        have t7 : a.tmps[7]? = some (.pointer (some ⟨bD, 0, none⟩)) := hold.2.2 7 rfl; obtain ⟨k0, k1, k2, -⟩ := blk3 (below_keep hB HV2.out); clear hold hdep; go_simp; exact hK.out _ _ rfl (Below.refl _ _)
      · intro a wx hB hold hdep K hK
        obtain ⟨v47, t47, p47⟩ := hdep 15 rfl _ 47 rfl rfl; have e47 : v47 = (.agg #[.int .i64 8, .string ⟨#[]⟩, .slice slB 1 cpB]) := p47; subst e47; obtain ⟨v48, t48, p48⟩ := hdep 16 rfl _ 48 rfl rfl; have e48 : v48 = (.agg #[.int .i64 9, .string ⟨#[]⟩, .slice slD 1 cpD]) := p48; subst e48; (have HW : Hid (Calls Try.prog 24 #[.int .i64 7, (.agg #[.int .i64 8, .string ⟨#[]⟩, .slice slB 1 cpB]), (.agg #[.int .i64 9, .string ⟨#[]⟩, .slice slD 1 cpD])] wx _) := bothP_any (fun _ => True) 7 (bx fPm) (di fPm) _ _ wx (fun _ _ => trivial) (HVr.out.1.up hB) (HVr.out.2.up hB)); clear hold hdep; go_simp; refine HW.out.mono ?_; rintro _ w9 ⟨x9, rfl, hr9, hb9⟩; (have H9 : Hid (Rep w9 (fun _ => True) (.mk 7 ⟨#[]⟩ [bx fPm, di fPm]) x9) := hr9); clear hr9; go_simp; exact hK.out _ _ H9.out hb9
      · intro a wx hB hold hdep K hK
        have t6 : a.tmps[6]? = some (.pointer (some ⟨bB, 0, none⟩)) := hold.2.2 6 rfl; obtain ⟨k0, k1, k2, -⟩ := blk3 (below_keep hB HV1.out); clear hold hdep; go_simp; exact hK.out _ _ rfl (Below.refl _ _)
      · intro a wx hB hold hdep K hK
        have t5 : a.tmps[5]? = some (.pointer (some ⟨w3.heap.size, 0, none⟩)) := hold.2.2 5 rfl; obtain ⟨k0, k1, k2, -⟩ := blk3 (below_keep hB HPV.out); clear hold hdep; go_simp; exact hK.out _ _ rfl (Below.refl _ _)
      · intro a wx hB hold hdep K hK
        obtain ⟨v50, t50, p50⟩ := hdep 18 rfl _ 50 rfl rfl; have e50 : v50 = (.agg #[.int .i64 8, .string ⟨#[]⟩, .slice slB 1 cpB]) := p50; subst e50; obtain ⟨v51, t51, p51⟩ := hdep 19 rfl _ 51 rfl rfl; have e51 : v51 = (.agg #[.int .i64 1, .string nPm, .slice none 0 0]) := p51; subst e51; (have HW : Hid (Calls Try.prog 24 #[.int .i64 7, (.agg #[.int .i64 8, .string ⟨#[]⟩, .slice slB 1 cpB]), (.agg #[.int .i64 1, .string nPm, .slice none 0 0])] wx _) := bothP_any (fun _ => True) 7 (bx fPm) (fPm) _ _ wx (fun _ _ => trivial) (HVr.out.1.up hB) (Rep.leaf (by decide))); clear hold hdep; go_simp; refine HW.out.mono ?_; rintro _ w9 ⟨x9, rfl, hr9, hb9⟩; (have H9 : Hid (Rep w9 (fun _ => True) (.mk 7 ⟨#[]⟩ [bx fPm, fPm]) x9) := hr9); clear hr9; go_simp; exact hK.out _ _ H9.out hb9
      · intro a wx hB hold hdep K hK
        obtain ⟨v52, t52, p52⟩ := hdep 20 rfl _ 52 rfl rfl; have P52 : Hid ((kR (.mk 7 ⟨#[]⟩ [bx fPm, fPm])) v52 wx) := p52; clear p52; (have HW : Hid (Calls Try.prog 23 #[.int .i64 8, v52] wx _) := ofP_any (fun _ => True) 8 (.mk 7 ⟨#[]⟩ [bx fPm, fPm]) _ wx (fun _ _ => trivial) (P52.out)); clear hold hdep; go_simp; refine HW.out.mono ?_; rintro _ w9 ⟨x9, rfl, hr9, hb9⟩; (have H9 : Hid (Rep w9 (fun _ => True) (.mk 8 ⟨#[]⟩ [.mk 7 ⟨#[]⟩ [bx fPm, fPm]]) x9) := hr9); clear hr9; go_simp; exact hK.out _ _ H9.out hb9
      · intro a wx hB hold hdep K hK
        have t6 : a.tmps[6]? = some (.pointer (some ⟨bB, 0, none⟩)) := hold.2.2 6 rfl; obtain ⟨k0, k1, k2, -⟩ := blk3 (below_keep hB HV1.out); clear hold hdep; go_simp; exact hK.out _ _ rfl (Below.refl _ _)
      · intro a wx hB hold hdep K hK
        obtain ⟨v53, t53, p53⟩ := hdep 21 rfl _ 53 rfl rfl; have P53 : Hid ((kR (.mk 8 ⟨#[]⟩ [.mk 7 ⟨#[]⟩ [bx fPm, fPm]])) v53 wx) := p53; clear p53; obtain ⟨v54, t54, p54⟩ := hdep 22 rfl _ 54 rfl rfl; have e54 : v54 = (.agg #[.int .i64 8, .string ⟨#[]⟩, .slice slB 1 cpB]) := p54; subst e54; (have HW : Hid (Calls Try.prog 24 #[.int .i64 7, v53, (.agg #[.int .i64 8, .string ⟨#[]⟩, .slice slB 1 cpB])] wx _) := bothP_any (fun _ => True) 7 (.mk 8 ⟨#[]⟩ [.mk 7 ⟨#[]⟩ [bx fPm, fPm]]) (bx fPm) _ _ wx (fun _ _ => trivial) (P53.out) (HVr.out.1.up hB)); clear hold hdep; go_simp; refine HW.out.mono ?_; rintro _ w9 ⟨x9, rfl, hr9, hb9⟩; (have H9 : Hid (Rep w9 (fun _ => True) (.mk 7 ⟨#[]⟩ [.mk 8 ⟨#[]⟩ [.mk 7 ⟨#[]⟩ [bx fPm, fPm]], bx fPm]) x9) := hr9); clear hr9; go_simp; exact hK.out _ _ H9.out hb9
      · intro a wx hB hold hdep K hK
        obtain ⟨v34, t34, p34⟩ := hdep 2 rfl _ 34 rfl rfl; have P34 : Hid ((kR (.mk 7 ⟨#[]⟩ [bx fPm, fPm])) v34 wx) := p34; clear p34; obtain ⟨v38, t38, p38⟩ := hdep 6 rfl _ 38 rfl rfl; have P38 : Hid ((kR (.mk 7 ⟨#[]⟩ [bx fPm, .mk 8 ⟨#[]⟩ [bx fPm]])) v38 wx) := p38; clear p38; obtain ⟨v42, t42, p42⟩ := hdep 10 rfl _ 42 rfl rfl; have P42 : Hid ((kR (.mk 7 ⟨#[]⟩ [fPm, .mk 8 ⟨#[]⟩ [di fPm]])) v42 wx) := p42; clear p42; obtain ⟨v46, t46, p46⟩ := hdep 14 rfl _ 46 rfl rfl; have P46 : Hid ((kR (.mk 7 ⟨#[]⟩ [di fPm, .mk 8 ⟨#[]⟩ [di fPm]])) v46 wx) := p46; clear p46; obtain ⟨v49, t49, p49⟩ := hdep 17 rfl _ 49 rfl rfl; have P49 : Hid ((kR (.mk 7 ⟨#[]⟩ [bx fPm, di fPm])) v49 wx) := p49; clear p49; obtain ⟨v55, t55, p55⟩ := hdep 23 rfl _ 55 rfl rfl; have P55 : Hid ((kR (.mk 7 ⟨#[]⟩ [.mk 8 ⟨#[]⟩ [.mk 7 ⟨#[]⟩ [bx fPm, fPm]], bx fPm])) v55 wx) := p55; clear p55; (have R34 : Hid (Rep wx (fun _ => True) (six.getD 0 fPm) v34) := P34.out); obtain ⟨sl34, cp34, rfl⟩ := slice_shape R34.out; (have R38 : Hid (Rep wx (fun _ => True) (six.getD 1 fPm) v38) := P38.out); obtain ⟨sl38, cp38, rfl⟩ := slice_shape R38.out; (have R42 : Hid (Rep wx (fun _ => True) (six.getD 2 fPm) v42) := P42.out); obtain ⟨sl42, cp42, rfl⟩ := slice_shape R42.out; (have R46 : Hid (Rep wx (fun _ => True) (six.getD 3 fPm) v46) := P46.out); obtain ⟨sl46, cp46, rfl⟩ := slice_shape R46.out; (have R49 : Hid (Rep wx (fun _ => True) (six.getD 4 fPm) v49) := P49.out); obtain ⟨sl49, cp49, rfl⟩ := slice_shape R49.out; (have R55 : Hid (Rep wx (fun _ => True) (six.getD 5 fPm) v55) := P55.out); obtain ⟨sl55, cp55, rfl⟩ := slice_shape R55.out; clear hold hdep; go_simp; have hbm := below_more (Below.refl _ wx) (.cells #[.int .i64 7, .string ⟨#[]⟩, .slice sl34 2 cp34, .int .i64 7, .string ⟨#[]⟩, .slice sl38 2 cp38, .int .i64 7, .string ⟨#[]⟩, .slice sl42 2 cp42, .int .i64 7, .string ⟨#[]⟩, .slice sl46 2 cp46, .int .i64 7, .string ⟨#[]⟩, .slice sl49 2 cp49, .int .i64 7, .string ⟨#[]⟩, .slice sl55 2 cp55] 28 (0, 0)); exact hK.out _ _ ⟨_, rfl, six_reps (blk_new wx (.cells #[.int .i64 7, .string ⟨#[]⟩, .slice sl34 2 cp34, .int .i64 7, .string ⟨#[]⟩, .slice sl38 2 cp38, .int .i64 7, .string ⟨#[]⟩, .slice sl42 2 cp42, .int .i64 7, .string ⟨#[]⟩, .slice sl46 2 cp46, .int .i64 7, .string ⟨#[]⟩, .slice sl49 2 cp49, .int .i64 7, .string ⟨#[]⟩, .slice sl55 2 cp55] 28 (0, 0))) (R34.out.up hbm) (R38.out.up hbm) (R42.out.up hbm) (R46.out.up hbm) (R49.out.up hbm) (R55.out.up hbm)⟩ hbm
    · intro a wx hB hold hgot K hK
      (obtain ⟨vS, tvS, pvS⟩ := hgot 24 _ 56 (by omega) rfl rfl); obtain ⟨bS, rfl, hRs⟩ := pvS; have HBx : Hid (Below V.heap.size V wx) := hB; (have HRs : Hid (Reps wx (fun _ => True) bS 0 six) := hRs); obtain ⟨tm, df⟩ := a; (obtain ⟨ys, zs, hys, hzs, htm, rfl⟩ := frame_two 8 1 23 25 9 32 57 rfl rfl rfl (by kernel_rfl) (Nat.le_of_ble_eq_true rfl) hold); obtain ⟨x8, rfl⟩ := rowE1 ys hys; obtain ⟨x32, x33, x34, x35, x36, x37, x38, x39, x40, x41, x42, x43, x44, x45, x46, x47, x48, x49, x50, x51, x52, x53, x54, x55, x56, rfl⟩ := rowE25 zs hzs; simp only [List.take_succ_cons, List.take_zero, List.drop_succ_cons, List.drop_zero, List.cons_append, List.nil_append] at htm; subst htm; obtain rfl : x56 = _ := someInjM tvS; clear hys hzs hold hgot tvS hB hRs; go_simp; refine hK.out _ _ ?_; clear hK; have HMU : Hid (wx.heap[w.heap.size]? = some (.cells #[.int .i64 m.n, .slice ra m.rel.length rc, .slice ta m.tr.length tc] 25 (0, 0))) := below_keep HBx.out HMV.out; have HSU : Hid (wx.heap[w2.heap.size]? = some (.cells #[.bool b0, .bool b1, .bool b2, .bool b3, .bool b4, .bool b5] 39 (0, 0))) := below_keep HBx.out HSV.out; have HBU : Hid (Below w.heap.size w wx) := below_join HBV.out HBx.out; obtain ⟨U, hU⟩ : ∃ U, U = wx := ⟨_, rfl⟩; subst hU; clear HV1 HV2 HVr HMV HSV HPV HBV HBx; go_wp2_with fail
      go_loopg [9] 6 (fun gg cc wr => ∃ i, i ≤ 6 ∧ gg = 6 - i ∧ cc = .int .i64 (i : Nat) ∧ Hid (Below U.heap.size U wr))
      case atStart => exact ⟨0, by omega, by omega, rfl, Below.refl _ _⟩
      case round =>
        obtain ⟨i, hi, hg, rfl, HBr⟩ := hrel; have HGk : Hid (gk = 6 - i) := hg; clear hg; by_cases hlt : i < 6
        · have hltI : (i : Int) < 6 := by omega
          have HI : Hid (i < 6) := hlt; (obtain ⟨kf, nf, ksf, hf⟩ : ∃ k n ks, sixF i = .mk k n ks := by cases h : sixF i with | mk k n ks => exact ⟨k, n, ks, rfl⟩); have HFi : Hid (sixF i = .mk kf nf ksf) := hf; (have hget : six[i]? = some (.mk kf nf ksf) := by rw [← hf]; exact six_get hlt); obtain ⟨slf, cpf, g0, g1, g2, hrf⟩ := (HRs.out.up HBr.out).at i kf nf ksf hget; simp only [Nat.zero_add] at g0 g1 g2; have HG0 : Hid (wr.cell? ⟨bS, i * 3, none⟩ = some (.int .i64 kf)) := g0; have HG1 : Hid (wr.cell? ⟨bS, i * 3 + 1, none⟩ = some (.string nf)) := g1; have HG2 : Hid (wr.cell? ⟨bS, i * 3 + 2, none⟩ = some (.slice slf ksf.length cpf)) := g2; (have HRf : Hid (Rep wr (fun _ => True) (.mk kf nf ksf) (.agg #[.int .i64 kf, .string nf, .slice slf ksf.length cpf])) := hrf); have HMr : Hid (wr.heap[w.heap.size]? = some (.cells #[.int .i64 m.n, .slice ra m.rel.length rc, .slice ta m.tr.length tc] 25 (0, 0))) := below_keep HBr.out HMU.out; have HSr : Hid (wr.heap[w2.heap.size]? = some (.cells #[.bool b0, .bool b1, .bool b2, .bool b3, .bool b4, .bool b5] 39 (0, 0))) := below_keep HBr.out HSU.out; have HBw : Hid (Below w.heap.size w wr) := below_join HBU.out HBr.out; obtain ⟨bi, hbi⟩ : ∃ bi, sv i = bi := ⟨_, rfl⟩; have HBi : Hid (sv i = bi) := hbi; clear hbi
          have HEv : Hid (∀ u W, MR W m (.agg #[.int .i64 m.n, .slice ra m.rel.length rc, .slice ta m.tr.length tc]) → Rep W (fun _ => True) (.mk kf nf ksf) u → Calls Try.prog 11 #[(.agg #[.int .i64 m.n, .slice ra m.rel.length rc, .slice ta m.tr.length tc]), u] W fun e w' => e = .returned (.tuple #[.bool bi, .agg #[.int .i64 0, .int .i64 0]]) ∧ Below W.heap.size W w') := fun u W h1 h2 => by
            rw [← HBi.out]; (exact HHo.out i HI.out u W h1 (by rw [HFi.out]; exact h2))
          clear hlt hi hf hget g0 g1 g2 hrf; go_wp2_with fail; (refine wp_region_last (by kernel_rfl) [fun v _ => v = (.agg #[.int .i64 m.n, .slice ra m.rel.length rc, .slice ta m.tr.length tc]), fun v _ => v = (.slice (some ⟨bS, 0, none⟩) 6 6), fun v _ => v = (.int .i64 (i : Nat)), fun v _ => v = (.pointer (some ⟨bS, i * 3, none⟩)), fun v _ => v = (.agg #[.int .i64 kf, .string nf, .slice slf ksf.length cpf]), fun v _ => v = (.tuple #[.bool bi, .agg #[.int .i64 0, .int .i64 0]]), fun v _ => v = (.tuple #[.bool bi, .agg #[.int .i64 0, .int .i64 0]]), fun v _ => v = (.bool bi), fun v _ => v = (.agg #[.int .i64 0, .int .i64 0]), kNf wr.heap.size, fun v _ => v = (.bool bi)] ?_ (by kernel_rfl) (by kernel_rfl) 80 rfl (by kernel_rfl) 11 _ rfl rfl (by kernel_rfl) ?_ ?_)
          · intro p hp
            simp only [List.mem_cons, List.not_mem_nil, or_false] at hp
            rcases hp with rfl | rfl | rfl | rfl | rfl | rfl | rfl | rfl | rfl | rfl | rfl
            · exact fun _ _ _ h _ => h
            · exact fun _ _ _ h _ => h
            · exact fun _ _ _ h _ => h
            · exact fun _ _ _ h _ => h
            · exact fun _ _ _ h _ => h
            · exact fun _ _ _ h _ => h
            · exact fun _ _ _ h _ => h
            · exact fun _ _ _ h _ => h
            · exact fun _ _ _ h _ => h
            · exact kNf_stays _
            · exact fun _ _ _ h _ => h
          · refine ⟨?_, ?_, ?_, ?_, ?_, ?_, ?_, ?_, ?_, ?_, ?_, trivial⟩
            · intro a wx hB hold hdep K hK
              have t1 : a.tmps[1]? = some (.pointer (some ⟨w.heap.size, 0, none⟩)) := hold.2.2 1 rfl; obtain ⟨k0, k1, k2, -⟩ := blk3 (below_keep hB HMr.out); clear hold hdep; go_simp; exact hK.out _ _ rfl (Below.refl _ _)
            · intro a wx hB hold hdep K hK
              have t8 : a.tmps[8]? = some (.slice (some ⟨bS, 0, none⟩) 6 6) := hold.2.2 8 rfl; clear hold hdep; go_simp; exact hK.out _ _ rfl (Below.refl _ _)
            · intro a wx hB hold hdep K hK
              have t9 : a.tmps[9]? = some (.int .i64 (i : Nat)) := hold.2.2 9 rfl; clear hold hdep; go_simp; exact hK.out _ _ rfl (Below.refl _ _)
            · intro a wx hB hold hdep K hK
              obtain ⟨v63, t63, p63⟩ := hdep 1 rfl _ 63 rfl rfl; have e63 : v63 = (.slice (some ⟨bS, 0, none⟩) 6 6) := p63; subst e63; obtain ⟨v64, t64, p64⟩ := hdep 2 rfl _ 64 rfl rfl; have e64 : v64 = (.int .i64 (i : Nat)) := p64; subst e64; clear hold hdep; go_simp; exact hK.out _ _ rfl (Below.refl _ _)
            · intro a wx hB hold hdep K hK
              obtain ⟨v65, t65, p65⟩ := hdep 3 rfl _ 65 rfl rfl; have e65 : v65 = (.pointer (some ⟨bS, i * 3, none⟩)) := p65; subst e65; have d0 := (hB.cell (lt_of_cell HG0.out)).trans HG0.out; have d1 := (hB.cell (lt_of_cell HG1.out)).trans HG1.out; have d2 := (hB.cell (lt_of_cell HG2.out)).trans HG2.out; clear hold hdep; go_simp; exact hK.out _ _ rfl (Below.refl _ _)
            · intro a wx hB hold hdep K hK
              obtain ⟨v62, t62, p62⟩ := hdep 0 rfl _ 62 rfl rfl; have e62 : v62 = (.agg #[.int .i64 m.n, .slice ra m.rel.length rc, .slice ta m.tr.length tc]) := p62; subst e62; obtain ⟨v66, t66, p66⟩ := hdep 4 rfl _ 66 rfl rfl; have e66 : v66 = (.agg #[.int .i64 kf, .string nf, .slice slf ksf.length cpf]) := p66; subst e66; have HW : Hid (Calls Try.prog 11 #[(.agg #[.int .i64 m.n, .slice ra m.rel.length rc, .slice ta m.tr.length tc]), (.agg #[.int .i64 kf, .string nf, .slice slf ksf.length cpf])] wx _) := HEv.out _ wx ((HRm.out.up HBw.out).up hB) (HRf.out.up hB); clear hold hdep; go_simp; refine HW.out.mono ?_; rintro _ w9 ⟨rfl, hb9⟩; go_simp; exact hK.out _ _ rfl hb9
            · intro a wx hB hold hdep K hK
              obtain ⟨v67, t67, p67⟩ := hdep 5 rfl _ 67 rfl rfl; have e67 : v67 = (.tuple #[.bool bi, .agg #[.int .i64 0, .int .i64 0]]) := p67; subst e67; clear hold hdep; go_simp; exact hK.out _ _ rfl (Below.refl _ _)
            · intro a wx hB hold hdep K hK
              obtain ⟨v61, t61, p61⟩ := hdep 6 rfl _ 61 rfl rfl; have e61 : v61 = (.tuple #[.bool bi, .agg #[.int .i64 0, .int .i64 0]]) := p61; subst e61; clear hold hdep; go_simp; exact hK.out _ _ rfl (Below.refl _ _)
            · intro a wx hB hold hdep K hK
              obtain ⟨v61, t61, p61⟩ := hdep 6 rfl _ 61 rfl rfl; have e61 : v61 = (.tuple #[.bool bi, .agg #[.int .i64 0, .int .i64 0]]) := p61; subst e61; clear hold hdep; go_simp; exact hK.out _ _ rfl (Below.refl _ _)
            · intro a wx hB hold hdep K hK
              have HA : Hid (wr.heap.size ≤ wx.heap.size) := hB.size; clear hold hdep; go_simp; exact hK.out _ _ ⟨_, rfl, HA.out, blk_new _ _⟩ (below_more (Below.refl _ _) _)
            · intro a wx hB hold hdep K hK
              obtain ⟨v68, t68, p68⟩ := hdep 7 rfl _ 68 rfl rfl; have e68 : v68 = (.bool bi) := p68; subst e68; clear hold hdep; go_simp; exact hK.out _ _ rfl (Below.refl _ _)
          · intro a wx hB hold hgot K hK
            (obtain ⟨vX, tvX, pvX⟩ := hgot 10 _ 10 (by omega) rfl rfl); have evX : vX = (.bool bi) := pvX; subst evX; (obtain ⟨vP, tvP, pvP⟩ := hgot 9 _ 11 (by omega) rfl rfl); (obtain ⟨vE, tvE, pvE⟩ := hgot 8 _ 69 (by omega) rfl rfl); have evE : vE = (.agg #[.int .i64 0, .int .i64 0]) := pvE; subst evE; obtain ⟨bF, rfl, hbA, hbz⟩ := pvP; have HbA : Hid (wr.heap.size ≤ bF) := hbA; have HbZ : Hid (wx.heap[bF]? = some (.cells #[.int .i64 0, .int .i64 0] 34 (0, 0))) := hbz; have HBx : Hid (Below wr.heap.size wr wx) := hB; obtain ⟨z0, z1, z2, z3⟩ := blk2 HbZ.out; obtain ⟨tm, df⟩ := a; (obtain ⟨ys, zs, hys, hzs, htm, rfl⟩ := frame_two 10 2 49 9 12 61 70 rfl rfl rfl (by kernel_rfl) (Nat.le_of_ble_eq_true rfl) hold); obtain ⟨y10, y11, rfl⟩ := rowE2 ys hys; obtain ⟨y61, y62, y63, y64, y65, y66, y67, y68, y69, rfl⟩ := rowT9 zs hzs; simp only [List.take_succ_cons, List.take_zero, List.drop_succ_cons, List.drop_zero, List.cons_append, List.nil_append] at htm; subst htm; obtain rfl : y10 = _ := someInjM tvX; obtain rfl : y11 = _ := someInjM tvP; obtain rfl : y69 = _ := someInjM tvE; clear hys hzs hold hgot tvX tvP tvE pvX pvE hbA hbz hB; go_simp; refine hK.out _ _ ?_; clear hK z0 z1 z2 z3; obtain ⟨F, hF⟩ : ∃ F, F = (wx.setCell ⟨bF, 0, none⟩ (.int .i64 0)).setCell ⟨bF, 1, none⟩ (.int .i64 0) := ⟨_, rfl⟩; (have HF1 : Hid (F.heap[bF]? = some (.cells #[.int .i64 0, .int .i64 0] 34 (0, 0))) := by rw [hF]; exact set2 HbZ.out _ _); (have HF2 : Hid (Below wr.heap.size wr F) := by rw [hF]; exact (HBx.out.setCell (p := ⟨bF, 0, none⟩) HbA.out _).setCell (p := ⟨bF, 1, none⟩) HbA.out _); have HF3 : Hid (F.heap[w2.heap.size]? = some (.cells #[.bool b0, .bool b1, .bool b2, .bool b3, .bool b4, .bool b5] 39 (0, 0))) := below_keep HF2.out HSr.out; rw [← hF]; clear hF; obtain ⟨z0, z1, -⟩ := blk2 HF1.out; have s0 := blk_cell HF3.out i; rw [HSi.out i HI.out, HBi.out] at s0; go_wp2_with fail
            go_roundg (6 - (i + 1))
            case measure => have := HGk.out; have := HI.out; omega
            case rel => exact ⟨i + 1, HI.out, rfl, by go_num, below_join HBr.out HF2.out⟩
        · have hii : i = 6 := by omega
          subst hii; clear hlt hi; go_wp2_with fail; go_ret; exact ⟨rfl, below_join HBU.out HBr.out⟩
end Go.Proofs.Ytfhbpfgbnfcdaag
