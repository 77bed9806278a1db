/- Texts of one proof, one behind the other: CC2, CC3. -/
import Derived.Test.YtpmogojpdigbmacB12
/- Walks: isNoEnd, stepOf, and what is asked of a step. -/
namespace Go.Proofs.Ytpmogojpdigbmac
open Go.RowKit

theorem blk4 {w : World} {b : Nat} {c0 c1 c2 c3 : Value} {T : TypeId} (h : w.heap[b]? = some (.cells #[c0, c1, c2, c3] T (0, 0))) : w.cell? ⟨b, 0, none⟩ = some c0 ∧ w.cell? ⟨b, 1, none⟩ = some c1 ∧ w.cell? ⟨b, 2, none⟩ = some c2 ∧ w.cell? ⟨b, 3, none⟩ = some c3 ∧ w.frozen? ⟨b, 2, none⟩ = false ∧ w.frozen? ⟨b, 3, none⟩ = false :=
  ⟨blk_cell h 0, blk_cell h 1, blk_cell h 2, blk_cell h 3, blk_fz h 2, blk_fz h 3⟩
theorem blk7 {w : World} {b : Nat} {c0 c1 c2 c3 c4 c5 c6 : Value} {T : TypeId} (h : w.heap[b]? = some (.cells #[c0, c1, c2, c3, c4, c5, c6] T (0, 0))) : w.cell? ⟨b, 0, none⟩ = some c0 ∧ w.cell? ⟨b, 1, none⟩ = some c1 ∧ w.cell? ⟨b, 2, none⟩ = some c2 ∧ w.cell? ⟨b, 3, none⟩ = some c3 ∧ w.cell? ⟨b, 4, none⟩ = some c4 ∧ w.cell? ⟨b, 5, none⟩ = some c5 ∧ w.cell? ⟨b, 6, none⟩ = some c6 :=
  ⟨blk_cell h 0, blk_cell h 1, blk_cell h 2, blk_cell h 3, blk_cell h 4, blk_cell h 5, blk_cell h 6⟩

/-- The checker's block. -/
def Ck (w : World) (bc : Nat) (i : Bool) (m : Nat) (s c : Nat) : Prop := w.heap[bc]? = some (.cells #[.bool i, .map (some m), .int .i64 (s : Nat), .int .i64 (c : Nat)] 62 (0, 0))

def noEnd (i : Bool) (l r : List Fm) : Bool := decide ((seqCode l r).1 ≠ 0) || (i && decide (1 < r.length))

set_option maxHeartbeats 4000000 in
theorem isNoEnd_any (i : Bool) (m s c bc : Nat) (l r : List Fm) (hl4 : l.length ≤ 400) (hr4 : r.length ≤ 400) (v u : Value) (w : World) (hv : FL w v l) (hu : FL w u r) (hc : Ck w bc i m s c) :
    Calls Try.prog 60 #[.pointer (some ⟨bc, 0, none⟩), .agg #[v, u]] w fun e w' => e = .returned (.bool (noEnd i l r)) ∧ Below w.heap.size w w' := by
  have B0 := below_more (Below.refl _ w) (.cells #[v, u] 26 (0, 0))
  have hcs := checkSeq_any l r hl4 hr4 v u (w.alloc (.cells #[v, u] 26 (0, 0))) (hv.up B0) (hu.up B0)
  have hne : noEnd i l r = (decide ((seqCode l r).1 ≠ 0) || (i && decide (1 < r.length))) := rfl
  rw [hne]
  clear hne
  generalize seqCode l r = sc at *
  obtain ⟨s1, s2⟩ := sc
  have hfc := fault_code s1 s2
  have HS : Hid (Calls Try.prog 68 _ _ _) := hcs
  obtain ⟨adU, cpU, rfl, -⟩ := hu
  obtain ⟨adV, cpV, rfl, -⟩ := hv
  have hrI : (r.length : Int) ≤ 400 := by omega
  have HCk : Hid (w.heap[bc]? = some (.cells #[.bool i, .map (some m), .int .i64 (s : Nat), .int .i64 (c : Nat)] 62 (0, 0))) := hc
  clear hcs hc
  by_cases h0 : s1 = 0
  · subst h0
    cases i
    · go_enter Try.func60, Try.ntmps60
      go_wp2_with (first
        | (go_at_call 68
           refine HS.out.mono ?_
           rintro e w1 ⟨rfl, hb1⟩
           have B1 := below_join B0 hb1
           obtain ⟨k0, -⟩ := blk4 (below_keep hb1 (alloc_keep HCk.out _)))
        | fail)
      go_ret
      exact ⟨rfl, B1⟩
    · by_cases h1 : 1 < r.length
      · have h1I : (1 : Int) < (r.length : Int) := by omega
        have HT : Hid (decide (1 < r.length) = true) := decide_eq_true h1
        clear h1
        go_enter Try.func60, Try.ntmps60
        go_wp2_with (first
          | (go_at_call 68
             refine HS.out.mono ?_
             rintro e w1 ⟨rfl, hb1⟩
             have B1 := below_join B0 hb1
             obtain ⟨k0, -⟩ := blk4 (below_keep hb1 (alloc_keep HCk.out _))
             obtain ⟨y0, y1, -⟩ := blk2 (below_keep hb1 (blk_new w _)))
          | fail)
        go_ret
        exact ⟨by rw [HT.out]; rfl, B1⟩
      · have h1I : ¬ (1 : Int) < (r.length : Int) := by omega
        have HT : Hid (decide (1 < r.length) = false) := decide_eq_false h1
        have HD : Hid (decide ((1 : Int) < (r.length : Int)) = false) := decide_eq_false h1I
        clear h1
        go_enter Try.func60, Try.ntmps60
        go_wp2_with (first
          | (go_at_call 68
             refine HS.out.mono ?_
             rintro e w1 ⟨rfl, hb1⟩
             have B1 := below_join B0 hb1
             obtain ⟨k0, -⟩ := blk4 (below_keep hb1 (alloc_keep HCk.out _))
             obtain ⟨y0, y1, -⟩ := blk2 (below_keep hb1 (blk_new w _)))
          | fail)
        go_ret
        exact ⟨by rw [HT.out]; show Ending.returned (.bool (decide ((1 : Int) < (r.length : Int)))) = _; rw [HD.out]; rfl, B1⟩
  · have hne' : (s1 != 0) = true := by simpa using h0
    have HT : Hid ((decide (s1 ≠ 0) || (i && decide (1 < r.length))) = true) := by show _ = _; rw [decide_eq_true h0]; rfl
    go_enter Try.func60, Try.ntmps60
    go_wp2_with (first
      | (go_at_call 68
         refine HS.out.mono ?_
         rintro e w1 ⟨rfl, hb1⟩
         have B1 := below_join B0 hb1)
      | fail)
    go_ret
    exact ⟨by rw [HT.out]; rfl, B1⟩

/-- What a rule sees: f, End's two sides, and what is left of them without one f. -/
def StV (w : World) (v : Value) (f : Fm) (l r : List Fm) : Prop := ∃ c0 c1 c2 vl vr vg vd, v = .agg #[c0, c1, c2, vl, vr, vg, vd] ∧ Rep w (fun _ => True) f (.agg #[c0, c1, c2]) ∧ FL w vl l ∧ FL w vr r ∧ FL w vg (l.erase f) ∧ FL w vd (r.erase f)
theorem StV.up {w w' : World} {v : Value} {f : Fm} {l r : List Fm} (h : StV w v f l r) (hb : Below w.heap.size w w') : StV w' v f l r := by
  obtain ⟨c0, c1, c2, vl, vr, vg, vd, hv, h1, h2, h3, h4, h5⟩ := h
  exact ⟨c0, c1, c2, vl, vr, vg, vd, hv, h1.up hb, h2.up hb, h3.up hb, h4.up hb, h5.up hb⟩

theorem erase_lt (f : Fm) (l : List Fm) : decide ((l.erase f).length < l.length) = decide (f ∈ l) := by
  by_cases h : f ∈ l
  · rw [decide_eq_true h, decide_eq_true]
    have := List.length_erase_of_mem h
    have := List.length_pos_of_mem h
    omega
  · rw [decide_eq_false h, List.erase_of_not_mem h, decide_eq_false (Nat.lt_irrefl _)]
set_option maxHeartbeats 1000000 in
theorem isLeft_any (f : Fm) (l r : List Fm) (v : Value) (w : World) (hv : StV w v f l r) :
    Calls Try.prog 36 #[v] w fun e w' => e = .returned (.bool (decide (f ∈ l))) ∧ Below w.heap.size w w' := by
  obtain ⟨c0, c1, c2, vl, vr, vg, vd, rfl, h1, ⟨ad, cp, rfl, -⟩, -, ⟨adg, cpg, rfl, -⟩, -⟩ := hv
  have HE : Hid (decide ((l.erase f).length < l.length) = decide (f ∈ l)) := erase_lt f l
  clear h1
  go_enter Try.func36, Try.ntmps36
  go_wp2_with fail
  go_ret
  exact ⟨by rw [← HE.out]; rfl, below_more (Below.refl _ w) _⟩
set_option maxHeartbeats 1000000 in
theorem isRight_any (f : Fm) (l r : List Fm) (v : Value) (w : World) (hv : StV w v f l r) :
    Calls Try.prog 37 #[v] w fun e w' => e = .returned (.bool (decide (f ∈ r))) ∧ Below w.heap.size w w' := by
  obtain ⟨c0, c1, c2, vl, vr, vg, vd, rfl, h1, -, ⟨ad, cp, rfl, -⟩, -, ⟨adg, cpg, rfl, -⟩⟩ := hv
  have HE : Hid (decide ((r.erase f).length < r.length) = decide (f ∈ r)) := erase_lt f r
  clear h1
  go_enter Try.func37, Try.ntmps37
  go_wp2_with fail
  go_ret
  exact ⟨by rw [← HE.out]; rfl, below_more (Below.refl _ w) _⟩

set_option maxHeartbeats 1000000 in
theorem stepA_any (k : Int) (n : ByteArray) (a : Fm) (ks : List Fm) (l r : List Fm) (v : Value) (w : World) (hv : StV w v (.mk k n (a :: ks)) l r) :
    Calls Try.prog 43 #[v] w fun e w' => ∃ x, e = .returned x ∧ Rep w' (fun _ => True) a x ∧ Below w.heap.size w w' := by
  obtain ⟨c0, c1, c2, vl, vr, vg, vd, rfl, h1, -⟩ := hv
  obtain ⟨sl, cap, hv0, -, hkc, hcm, hks⟩ := Rep.def.1 h1
  simp only [Value.agg.injEq, Array.mk.injEq, List.cons.injEq, and_true] at hv0
  obtain ⟨rfl, rfl, rfl⟩ := hv0
  obtain ⟨b, off, rfl, -, hrs⟩ := hks (by simp)
  obtain ⟨ka, na, ksa⟩ := a
  obtain ⟨sla, capa, g0, g1, g2, hra⟩ := hrs.at 0 ka na ksa rfl
  simp only [Nat.zero_mul, Nat.add_zero] at g0 g1 g2
  have hc0 : (0 : Int) < ((ks.length : Int) + 1) := by omega
  have hlI : ((ks.length : Int) + 1) ≤ 9223372036854775807 := by unfold maxLen at hcm; simp at hkc; omega
  have HR : Hid (Rep w (fun _ => True) (.mk ka na ksa) (.agg #[.int .i64 ka, .string na, .slice sla ksa.length capa])) := hra
  have z0 := lt_of_cell g0
  simp only at z0
  have d0 : ¬ b = w.heap.size := by omega
  have d1 : ¬ b = w.heap.size + 1 := by omega
  clear h1 hrs hks hra hkc hcm
  go_enter Try.func43, Try.ntmps43
  go_wp2_with fail
  exact bodyPost_ret (v := .agg #[.int .i64 ka, .string na, .slice sla ksa.length capa]) (by simp [results, Try.results43, go_sem]) rfl ⟨_, rfl, (HR.out.more _).more _, below_more (below_more (Below.refl _ w) _) _⟩
set_option maxHeartbeats 1000000 in
theorem stepB_any (k : Int) (n : ByteArray) (a0 a : Fm) (ks : List Fm) (l r : List Fm) (v : Value) (w : World) (hv : StV w v (.mk k n (a0 :: a :: ks)) l r) :
    Calls Try.prog 44 #[v] w fun e w' => ∃ x, e = .returned x ∧ Rep w' (fun _ => True) a x ∧ Below w.heap.size w w' := by
  obtain ⟨c0, c1, c2, vl, vr, vg, vd, rfl, h1, -⟩ := hv
  obtain ⟨sl, cap, hv0, -, hkc, hcm, hks⟩ := Rep.def.1 h1
  simp only [Value.agg.injEq, Array.mk.injEq, List.cons.injEq, and_true] at hv0
  obtain ⟨rfl, rfl, rfl⟩ := hv0
  obtain ⟨b, off, rfl, -, hrs⟩ := hks (by simp)
  obtain ⟨ka, na, ksa⟩ := a
  obtain ⟨sla, capa, g0, g1, g2, hra⟩ := hrs.at 1 ka na ksa rfl
  simp only [Nat.one_mul] at g0 g1 g2
  have hc0 : (1 : Int) < ((ks.length : Int) + 1 + 1) := by omega
  have hlI : ((ks.length : Int) + 1 + 1) ≤ 9223372036854775807 := by unfold maxLen at hcm; simp at hkc; omega
  have HR : Hid (Rep w (fun _ => True) (.mk ka na ksa) (.agg #[.int .i64 ka, .string na, .slice sla ksa.length capa])) := hra
  have z0 := lt_of_cell g0
  simp only at z0
  have d0 : ¬ b = w.heap.size := by omega
  have d1 : ¬ b = w.heap.size + 1 := by omega
  clear h1 hrs hks hra hkc hcm
  go_enter Try.func44, Try.ntmps44
  go_wp2_with fail
  exact bodyPost_ret (v := .agg #[.int .i64 ka, .string na, .slice sla ksa.length capa]) (by simp [results, Try.results44, go_sem]) rfl ⟨_, rfl, (HR.out.more _).more _, below_more (below_more (Below.refl _ w) _) _⟩
end Go.Proofs.Ytpmogojpdigbmac
/- Sequents in memory; facts that stay. -/
namespace Go.Proofs.Ytpmogojpdigbmac
open Go.RowKit

def SQ (w : World) (v : Value) (s : List Fm × List Fm) : Prop := ∃ vl vr, v = .agg #[vl, vr] ∧ FL w vl s.1 ∧ FL w vr s.2
def SQs (w : World) (v : Value) (ss : List (List Fm × List Fm)) : Prop := ∃ ad cap, v = .slice ad ss.length cap ∧ ss.length ≤ cap ∧ cap ≤ maxLen ∧ (ss ≠ [] → ∃ b off, ad = some ⟨b, off, none⟩ ∧ ∀ (j : Nat) (s : List Fm × List Fm), ss[j]? = some s → ∃ vl vr, w.cell? ⟨b, off + j * 2, none⟩ = some vl ∧ w.cell? ⟨b, off + j * 2 + 1, none⟩ = some vr ∧ FL w vl s.1 ∧ FL w vr s.2)
theorem SQ.up {w w' : World} {v : Value} {s : List Fm × List Fm} (h : SQ w v s) (hb : Below w.heap.size w w') : SQ w' v s := by
  obtain ⟨vl, vr, hv, h1, h2⟩ := h
  exact ⟨vl, vr, hv, h1.up hb, h2.up hb⟩
theorem SQs.up {w w' : World} {v : Value} {ss : List (List Fm × List Fm)} (h : SQs w v ss) (hb : Below w.heap.size w w') : SQs w' v ss := by
  obtain ⟨ad, cap, h1, h2, h3, h4⟩ := h
  refine ⟨ad, cap, h1, h2, h3, fun hne => ?_⟩
  obtain ⟨b, off, h5, h6⟩ := h4 hne
  refine ⟨b, off, h5, fun j s hs => ?_⟩
  obtain ⟨vl, vr, h7, h8, h9, h10⟩ := h6 j s hs
  exact ⟨vl, vr, (hb.cell (p := ⟨b, off + j * 2, none⟩) (lt_of_cell h7)).trans h7, (hb.cell (p := ⟨b, off + j * 2 + 1, none⟩) (lt_of_cell h8)).trans h8, h9.up hb, h10.up hb⟩
theorem SQs.nil {w : World} : SQs w (.slice none 0 0) [] := ⟨none, 0, rfl, Nat.le_refl _, by simp, fun h => absurd rfl h⟩
theorem SQs.one {w : World} {b : Nat} {T : TypeId} {vl vr : Value} {s : List Fm × List Fm} (hb : w.heap[b]? = some (.cells #[vl, vr] T (0, 0))) (h1 : FL w vl s.1) (h2 : FL w vr s.2) : SQs w (.slice (some ⟨b, 0, none⟩) 1 1) [s] := by
  refine ⟨_, 1, rfl, Nat.le_refl _, by simp [maxLen], fun _ => ⟨b, 0, rfl, fun j t ht => ?_⟩⟩
  cases j with
  | zero => simp at ht; subst ht; exact ⟨vl, vr, blk_cell hb 0, blk_cell hb 1, h1, h2⟩
  | succ j => simp at ht
theorem SQs.two {w : World} {b : Nat} {T : TypeId} {vl vr vl' vr' : Value} {s s' : List Fm × List Fm} (hb : w.heap[b]? = some (.cells #[vl, vr, vl', vr'] T (0, 0))) (h1 : FL w vl s.1) (h2 : FL w vr s.2) (h3 : FL w vl' s'.1) (h4 : FL w vr' s'.2) : SQs w (.slice (some ⟨b, 0, none⟩) 2 2) [s, s'] := by
  refine ⟨_, 2, rfl, Nat.le_refl _, by simp [maxLen], fun _ => ⟨b, 0, rfl, fun j t ht => ?_⟩⟩
  rcases j with _ | _ | j
  · simp at ht; subst ht; exact ⟨vl, vr, blk_cell hb 0, blk_cell hb 1, h1, h2⟩
  · simp at ht; subst ht; exact ⟨vl', vr', blk_cell hb 2, blk_cell hb 3, h3, h4⟩
  · simp at ht
theorem FL.sing {w : World} {b : Nat} {T : TypeId} {c0 c1 c2 : Value} {f : Fm} (hb : w.heap[b]? = some (.cells #[c0, c1, c2] T (0, 0))) (h : Rep w (fun _ => True) f (.agg #[c0, c1, c2])) : FL w (.slice (some ⟨b, 0, none⟩) 1 1) [f] :=
  ⟨_, 1, rfl, Nat.le_refl _, by simp [maxLen], fun _ => ⟨b, 0, rfl, Reps.cons.2 ⟨⟨c0, c1, c2, blk_cell hb 0, blk_cell hb 1, blk_cell hb 2, h⟩, Reps.nil⟩⟩⟩
theorem FL.duo {w : World} {b : Nat} {T : TypeId} {c0 c1 c2 c3 c4 c5 : Value} {f g : Fm} (hb : w.heap[b]? = some (.cells #[c0, c1, c2, c3, c4, c5] T (0, 0))) (h : Rep w (fun _ => True) f (.agg #[c0, c1, c2])) (h' : Rep w (fun _ => True) g (.agg #[c3, c4, c5])) : FL w (.slice (some ⟨b, 0, none⟩) 2 2) [f, g] :=
  ⟨_, 2, rfl, Nat.le_refl _, by simp [maxLen], fun _ => ⟨b, 0, rfl, Reps.cons.2 ⟨⟨c0, c1, c2, blk_cell hb 0, blk_cell hb 1, blk_cell hb 2, h⟩, Reps.cons.2 ⟨⟨c3, c4, c5, blk_cell hb 3, blk_cell hb 4, blk_cell hb 5, h'⟩, Reps.nil⟩⟩⟩⟩
theorem FL.none {w : World} : FL w (.slice none 0 0) [] := ⟨_, 0, rfl, Nat.le_refl _, by simp, fun h => absurd rfl h⟩

/-! The facts on the way through a region. -/
def kEq (x : Value) : Value → World → Prop := fun v _ => v = x
def kRep (k : Int) (n : ByteArray) (ks : List Fm) : Value → World → Prop := fun v w => ∃ sl cap, v = .agg #[.int .i64 k, .string n, .slice sl ks.length cap] ∧ Rep w (fun _ => True) (.mk k n ks) (.agg #[.int .i64 k, .string n, .slice sl ks.length cap])
def kFL (l : List Fm) : Value → World → Prop := fun v w => ∃ ad m cap, v = .slice ad m cap ∧ FL w (.slice ad m cap) l
def kSQ (s : List Fm × List Fm) : Value → World → Prop := fun v w => ∃ ad m cap ad' m' cap', v = .agg #[.slice ad m cap, .slice ad' m' cap'] ∧ FL w (.slice ad m cap) s.1 ∧ FL w (.slice ad' m' cap') s.2
def kSQs (ss : List (List Fm × List Fm)) : Value → World → Prop := fun v w => SQs w v ss
theorem kEq_stays (x : Value) : Stays (kEq x) := fun _ _ _ h _ => h
theorem kRep_stays (k : Int) (n : ByteArray) (ks : List Fm) : Stays (kRep k n ks) := fun _ _ _ h hb => by
  obtain ⟨sl, cap, hv, hr⟩ := h
  exact ⟨sl, cap, hv, hr.up hb⟩
theorem kFL_stays (l : List Fm) : Stays (kFL l) := fun _ _ _ h hb => by
  obtain ⟨ad, m, cap, hv, hl⟩ := h
  exact ⟨ad, m, cap, hv, hl.up hb⟩
theorem kSQ_stays (s : List Fm × List Fm) : Stays (kSQ s) := fun _ _ _ h hb => by
  obtain ⟨ad, m, cap, ad', m', cap', hv, h1, h2⟩ := h
  exact ⟨ad, m, cap, ad', m', cap', hv, h1.up hb, h2.up hb⟩
theorem kSQs_stays (ss : List (List Fm × List Fm)) : Stays (kSQs ss) := fun _ _ _ h hb => SQs.up h hb
theorem kRep_of {k : Int} {n : ByteArray} {ks : List Fm} {w : World} {x : Value} (h : Rep w (fun _ => True) (.mk k n ks) x) : kRep k n ks x w := by
  obtain ⟨sl, cap, rfl⟩ := slice_shape h
  exact ⟨sl, cap, rfl, h⟩
theorem kFL_of {l : List Fm} {w : World} {x : Value} (h : FL w x l) : kFL l x w := by
  have h' := h
  obtain ⟨ad, cap, rfl, -⟩ := h
  exact ⟨ad, _, cap, rfl, h'⟩
end Go.Proofs.Ytpmogojpdigbmac
