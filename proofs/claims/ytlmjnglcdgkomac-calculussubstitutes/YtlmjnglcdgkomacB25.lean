/- Texts of one proof, one behind the other: CC1, CC2, CC3. -/
import Derived.Test.YtlmjnglcdgkomacB23
import Derived.Test.YtlmjnglcdgkomacB24
import Derived.Test.YtlmjnglcdgkomacB04
/- Walks: calculus.CheckSequent, isNoEnd. -/
namespace Go.Proofs.Ytlmjnglcdgkomac
open Go.RowKit

theorem blk_two (w : World) (o o' : Obj) : ((w.alloc o).alloc o').heap[w.heap.size + 1]? = some o' := by
  have := blk_new (w.alloc o) o'
  rwa [show (w.alloc o).heap.size = w.heap.size + 1 by simp] at this
theorem blk_three (w : World) (o o' o'' : Obj) : (((w.alloc o).alloc o').alloc o'').heap[w.heap.size + 1 + 1]? = some o'' := by
  have := blk_two (w.alloc o) o' o''
  rwa [show (w.alloc o).heap.size = w.heap.size + 1 by simp] at this
theorem firstBad_drop {l : List Fm} {i : Nat} {f : Fm} (h : l[i]? = some f) : firstBad (l.drop i) i = if f.pcode.1 = 0 then firstBad (l.drop (i + 1)) (i + 1) else (f.pcode.1, (i : Nat)) := by
  have hi : i < l.length := (List.getElem?_eq_some_iff.1 h).1; rw [List.drop_eq_getElem_cons hi, firstBad]; rw [List.getElem?_eq_getElem hi] at h; rw [Option.some.inj h]

set_option maxRecDepth 10000 in
set_option maxHeartbeats 4000000 in
theorem checkSeq_any (l r : List Fm) (hl4 : l.length ≤ 400) (hr4 : r.length ≤ 400) (v u : Value) (w : World) (hv : FL w v l) (hu : FL w u r) :
    Calls Try.prog 68 #[.agg #[v, u]] w fun e w' => e = .returned (.agg #[.int .i64 (seqCode l r).1, .int .i64 (seqCode l r).2]) ∧ Below w.heap.size w w' := by
  have HV : Hid (FL w v l) := hv; have HU : Hid (FL w u r) := hu; obtain ⟨adV, cpV, rfl, hv1, hv2, -⟩ := hv; obtain ⟨adU, cpU, rfl, hu1, hu2, -⟩ := hu; (have hlI : (l.length : Int) ≤ 400 := by omega); (have hrI : (r.length : Int) ≤ 400 := by omega); unfold seqCode; by_cases hmany : 60 < l.length + r.length
  · rw [if_pos hmany]
    (have hmI : (60 : Int) < (l.length : Int) + (r.length : Int) := by omega); clear HV HU hv1 hv2 hu1 hu2 hmany
    go_enter Try.func68, Try.ntmps68
    go_wp2_with fail; (exact bodyPost_ret (v := .agg #[.int .i64 2, .int .i64 0]) (by simp [results, Try.results68, go_sem]) rfl ⟨rfl, below_more (below_more (Below.refl _ w) _) _⟩)
  · rw [if_neg hmany]
    (have hmI : ¬ (60 : Int) < (l.length : Int) + (r.length : Int) := by omega); (have hll : (l ++ r).length ≤ 60 := by rw [List.length_append]; omega); obtain ⟨c, hc⟩ : ∃ c, c = l ++ r := ⟨_, rfl⟩; rw [← hc] at hll ⊢; have HC : Hid (c = l ++ r) := hc; clear hc; clear hmany hv1 hv2 hu1 hu2
    go_enter Try.func68, Try.ntmps68
    go_wp2_with fail; (refine (concat_any w.heap.size l r hl4 hr4 _ _ _ _ (by simp; omega) (HV.out.low.up (below_more (below_more (below_more (Below.refl _ w) _) _) _)) (HU.out.low.up (below_more (below_more (below_more (Below.refl _ w) _) _) _)) (blk_three w _ _ _)).mono ?_); rintro e w1 ⟨x, rfl, hF, hb1⟩; have q1 := below_keep hb1 (alloc_keep (blk_two w (.cells #[.slice adV l.length cpV, .slice adU r.length cpU] 26 (0, 0)) (.cells #[.int .i64 0, .int .i64 0] 34 (0, 0))) (.cells #[.slice adV l.length cpV, .slice adU r.length cpU] 22 (0, 0))); have HQ : Hid (w1.heap[w.heap.size + 1]? = some (.cells #[.int .i64 0, .int .i64 0] 34 (0, 0))) := q1; have B1 := below_join (below_more (below_more (below_more (Below.refl _ w) _) _) _) hb1; have z1 := lt_of_block q1; have hF2 := hF.list; rw [← HC.out] at hF2; obtain ⟨ad, cap, rfl, h1, h2, h3⟩ := hF2; (have H3 : Hid (c ≠ [] → ∃ b off, ad = some ⟨b, off, none⟩ ∧ Reps w1 (fun _ => True) b off c) := h3); (have hcI : (c.length : Int) ≤ 60 := by omega); clear h3 hF q1 hb1 HV HU; go_wp2_with fail
    go_loopg [22] c.length (fun g cc wr => ∃ i, i ≤ c.length ∧ g = c.length - i ∧ cc = .int .i64 (i : Nat) ∧ Below w1.heap.size w1 wr ∧ Hid (firstBad (c.drop i) i = firstBad c 0))
    case atStart => exact ⟨0, by omega, by omega, rfl, Below.refl _ _, by show _ = _; simp⟩
    case round =>
      obtain ⟨i, hi, hg, rfl, hbr, HN⟩ := hrel; have HG : Hid (gk = c.length - i) := hg; have zr := hbr.size; clear hg; by_cases hlt : i < c.length
      · obtain ⟨⟨k2, n2, ks2⟩, hki⟩ : ∃ f, c[i]? = some f := ⟨_, List.getElem?_eq_getElem hlt⟩
        (obtain ⟨b, off, rfl, hrs⟩ := H3.out (fun e => by rw [e] at hlt; simp at hlt)); obtain ⟨sl2, cap2, g0, g1, g2, hrep2⟩ := (hrs.up hbr).at i k2 n2 ks2 hki; (have hltI : (i : Int) < (c.length : Int) := by omega); (have hlc : (i : Int) < (cap : Int) := by omega); have hds := HN.out; rw [firstBad_drop hki] at hds; (have hpl := fun v (w : World) h => plainCode_any (.mk k2 n2 ks2) v w h); generalize (Fm.mk k2 n2 ks2).pcode = pc at hpl hds; (have HP : Hid (∀ v w, Rep w (fun _ => True) (.mk k2 n2 ks2) v → Calls Try.prog 62 #[v] w _) := hpl); (have HD : Hid ((if pc.1 = 0 then firstBad (c.drop (i + 1)) (i + 1) else (pc.1, ((i : Nat) : Int))) = firstBad c 0) := hds); obtain ⟨pc1, pc2⟩ := pc; clear hki hrs H3 hds HN hpl; by_cases hp : pc1 = 0
        · subst hp
          have HT : Hid (firstBad (c.drop (i + 1)) (i + 1) = firstBad c 0) := by
            have := HD.out
            rwa [if_pos rfl] at this
          clear HD; go_wp2_with fail; refine (HP.out _ _ (hrep2.more _)).mono ?_; rintro e w2 ⟨rfl, hb2⟩; have B2 := below_join (below_more hbr _) hb2; clear g0 g1 g2 hb2; go_wp2_with fail
          go_roundg (c.length - (i + 1))
          case measure => have := HG.out; omega
          case rel => exact ⟨i + 1, by omega, rfl, by go_num, B2, HT⟩
        · have HT : Hid (firstBad c 0 = (pc1, ((i : Nat) : Int))) := by
            have := HD.out; rw [if_neg hp] at this; exact this.symm
          (have hne' : (pc1 != 0) = true := by simpa using hp); clear HD; go_wp2_with fail; refine (HP.out _ _ (hrep2.more _)).mono ?_; rintro e w2 ⟨rfl, hb2⟩; have B2 := below_join (below_more hbr _) hb2; have q2 := below_keep B2 HQ.out; obtain ⟨y1, y2, y3, y4⟩ := blk2 q2; have z2 := lt_of_block q2; clear g0 g1 g2 hb2; go_wp2_with fail; have f2 := set2 q2 (.int .i64 pc1) (.int .i64 (i : Nat)); (have b2 := ((below_join B1 B2).setCell (p := ⟨w.heap.size + 1, 0, none⟩) (by simp) (.int .i64 pc1)).setCell (p := ⟨w.heap.size + 1, 1, none⟩) (by simp) (.int .i64 (i : Nat))); generalize World.setCell _ _ _ = F at f2 b2 ⊢; clear y1 y2 y3 y4; obtain ⟨k1, k2, -⟩ := blk2 f2; (exact bodyPost_ret (v := .agg #[.int .i64 pc1, .int .i64 (i : Nat)]) (by simp [results, Try.results68, go_sem, k1, k2]) rfl ⟨by rw [HT.out], b2⟩)
      · have HT : Hid (firstBad c 0 = (0, 0)) := by
          have := HN.out; (rw [List.drop_of_length_le (by omega), firstBad] at this); exact this.symm
        (have hge : ¬ (i : Int) < (c.length : Int) := by omega); have q2 := below_keep hbr HQ.out; obtain ⟨y1, y2, y3, y4⟩ := blk2 q2; clear H3 HN; go_wp2_with fail; have f2 := set2 q2 (.int .i64 0) (.int .i64 0); (have b2 := ((below_join B1 hbr).setCell (p := ⟨w.heap.size + 1, 0, none⟩) (by simp) (.int .i64 0)).setCell (p := ⟨w.heap.size + 1, 1, none⟩) (by simp) (.int .i64 0)); generalize World.setCell _ _ _ = F at f2 b2 ⊢; clear y1 y2 y3 y4; obtain ⟨k1, k2, -⟩ := blk2 f2; (exact bodyPost_ret (v := .agg #[.int .i64 0, .int .i64 0]) (by simp [results, Try.results68, go_sem, k1, k2]) rfl ⟨by rw [HT.out], b2⟩)
end Go.Proofs.Ytlmjnglcdgkomac
/- Walks: isNoEnd, stepOf, and what is asked of a step. -/
namespace Go.Proofs.Ytlmjnglcdgkomac
open Go.RowKit

theorem blk4 {w : World} {b : Nat} {c0 c1 c2 c3 : Value} {T : TypeId} (h : w.heap[b]? = some (.cells #[c0, c1, c2, c3] T (0, 0))) : w.cell? ⟨b, 0, none⟩ = some c0 ∧ w.cell? ⟨b, 1, none⟩ = some c1 ∧ w.cell? ⟨b, 2, none⟩ = some c2 ∧ w.cell? ⟨b, 3, none⟩ = some c3 ∧ w.frozen? ⟨b, 2, none⟩ = false ∧ w.frozen? ⟨b, 3, none⟩ = false :=
  ⟨blk_cell h 0, blk_cell h 1, blk_cell h 2, blk_cell h 3, blk_fz h 2, blk_fz h 3⟩
theorem blk7 {w : World} {b : Nat} {c0 c1 c2 c3 c4 c5 c6 : Value} {T : TypeId} (h : w.heap[b]? = some (.cells #[c0, c1, c2, c3, c4, c5, c6] T (0, 0))) : w.cell? ⟨b, 0, none⟩ = some c0 ∧ w.cell? ⟨b, 1, none⟩ = some c1 ∧ w.cell? ⟨b, 2, none⟩ = some c2 ∧ w.cell? ⟨b, 3, none⟩ = some c3 ∧ w.cell? ⟨b, 4, none⟩ = some c4 ∧ w.cell? ⟨b, 5, none⟩ = some c5 ∧ w.cell? ⟨b, 6, none⟩ = some c6 :=
  ⟨blk_cell h 0, blk_cell h 1, blk_cell h 2, blk_cell h 3, blk_cell h 4, blk_cell h 5, blk_cell h 6⟩

/-- The checker's block. -/
def Ck (w : World) (bc : Nat) (i : Bool) (m : Nat) (s c : Nat) : Prop := w.heap[bc]? = some (.cells #[.bool i, .map (some m), .int .i64 (s : Nat), .int .i64 (c : Nat)] 62 (0, 0))

def noEnd (i : Bool) (l r : List Fm) : Bool := decide ((seqCode l r).1 ≠ 0) || (i && decide (1 < r.length))

set_option maxHeartbeats 4000000 in
theorem isNoEnd_any (i : Bool) (m s c bc : Nat) (l r : List Fm) (hl4 : l.length ≤ 400) (hr4 : r.length ≤ 400) (v u : Value) (w : World) (hv : FL w v l) (hu : FL w u r) (hc : Ck w bc i m s c) :
    Calls Try.prog 60 #[.pointer (some ⟨bc, 0, none⟩), .agg #[v, u]] w fun e w' => e = .returned (.bool (noEnd i l r)) ∧ Below w.heap.size w w' := by
  have B0 := below_more (Below.refl _ w) (.cells #[v, u] 26 (0, 0)); have hcs := checkSeq_any l r hl4 hr4 v u (w.alloc (.cells #[v, u] 26 (0, 0))) (hv.up B0) (hu.up B0); have hne : noEnd i l r = (decide ((seqCode l r).1 ≠ 0) || (i && decide (1 < r.length))) := rfl; rw [hne]; clear hne; generalize seqCode l r = sc at *; obtain ⟨s1, s2⟩ := sc; have hfc := fault_code s1 s2; have HS : Hid (Calls Try.prog 68 _ _ _) := hcs; obtain ⟨adU, cpU, rfl, -⟩ := hu; obtain ⟨adV, cpV, rfl, -⟩ := hv; (have hrI : (r.length : Int) ≤ 400 := by omega); have HCk : Hid (w.heap[bc]? = some (.cells #[.bool i, .map (some m), .int .i64 (s : Nat), .int .i64 (c : Nat)] 62 (0, 0))) := hc; clear hcs hc; by_cases h0 : s1 = 0
  · subst h0
    cases i
    · go_enter Try.func60, Try.ntmps60
      go_wp2_with (first
        | (go_at_call 68
           refine HS.out.mono ?_; rintro e w1 ⟨rfl, hb1⟩; have B1 := below_join B0 hb1
           obtain ⟨k0, -⟩ := blk4 (below_keep hb1 (alloc_keep HCk.out _)))
        | fail)
      go_ret; exact ⟨rfl, B1⟩
    · by_cases h1 : 1 < r.length
      · have h1I : (1 : Int) < (r.length : Int) := by omega
        have HT : Hid (decide (1 < r.length) = true) := decide_eq_true h1; clear h1
        go_enter Try.func60, Try.ntmps60
        go_wp2_with (first
          | (go_at_call 68
             refine HS.out.mono ?_; rintro e w1 ⟨rfl, hb1⟩; have B1 := below_join B0 hb1; obtain ⟨k0, -⟩ := blk4 (below_keep hb1 (alloc_keep HCk.out _))
             obtain ⟨y0, y1, -⟩ := blk2 (below_keep hb1 (blk_new w _)))
          | fail)
        go_ret; (exact ⟨by rw [HT.out]; rfl, B1⟩)
      · have h1I : ¬ (1 : Int) < (r.length : Int) := by omega
        have HT : Hid (decide (1 < r.length) = false) := decide_eq_false h1; have HD : Hid (decide ((1 : Int) < (r.length : Int)) = false) := decide_eq_false h1I; clear h1
        go_enter Try.func60, Try.ntmps60
        go_wp2_with (first
          | (go_at_call 68
             refine HS.out.mono ?_; rintro e w1 ⟨rfl, hb1⟩; have B1 := below_join B0 hb1; obtain ⟨k0, -⟩ := blk4 (below_keep hb1 (alloc_keep HCk.out _))
             obtain ⟨y0, y1, -⟩ := blk2 (below_keep hb1 (blk_new w _)))
          | fail)
        go_ret; (exact ⟨by rw [HT.out]; show Ending.returned (.bool (decide ((1 : Int) < (r.length : Int)))) = _; rw [HD.out]; rfl, B1⟩)
  · have hne' : (s1 != 0) = true := by simpa using h0
    (have HT : Hid ((decide (s1 ≠ 0) || (i && decide (1 < r.length))) = true) := by show _ = _; rw [decide_eq_true h0]; rfl)
    go_enter Try.func60, Try.ntmps60
    go_wp2_with (first
      | (go_at_call 68
         refine HS.out.mono ?_; rintro e w1 ⟨rfl, hb1⟩
         have B1 := below_join B0 hb1)
      | fail)
    go_ret; (exact ⟨by rw [HT.out]; rfl, B1⟩)

/-- What a rule sees: f, End's two sides, and what is left of them without one f. -/
def StV (w : World) (v : Value) (f : Fm) (l r : List Fm) : Prop := ∃ c0 c1 c2 vl vr vg vd, v = .agg #[c0, c1, c2, vl, vr, vg, vd] ∧ Rep w (fun _ => True) f (.agg #[c0, c1, c2]) ∧ FL w vl l ∧ FL w vr r ∧ FL w vg (l.erase f) ∧ FL w vd (r.erase f)
theorem StV.up {w w' : World} {v : Value} {f : Fm} {l r : List Fm} (h : StV w v f l r) (hb : Below w.heap.size w w') : StV w' v f l r := by
  obtain ⟨c0, c1, c2, vl, vr, vg, vd, hv, h1, h2, h3, h4, h5⟩ := h; exact ⟨c0, c1, c2, vl, vr, vg, vd, hv, h1.up hb, h2.up hb, h3.up hb, h4.up hb, h5.up hb⟩

theorem erase_lt (f : Fm) (l : List Fm) : decide ((l.erase f).length < l.length) = decide (f ∈ l) := by
  by_cases h : f ∈ l
  · rw [decide_eq_true h, decide_eq_true]
    have := List.length_erase_of_mem h; have := List.length_pos_of_mem h; omega
  · rw [decide_eq_false h, List.erase_of_not_mem h, decide_eq_false (Nat.lt_irrefl _)]
set_option maxHeartbeats 1000000 in
theorem isLeft_any (f : Fm) (l r : List Fm) (v : Value) (w : World) (hv : StV w v f l r) :
    Calls Try.prog 36 #[v] w fun e w' => e = .returned (.bool (decide (f ∈ l))) ∧ Below w.heap.size w w' := by
  obtain ⟨c0, c1, c2, vl, vr, vg, vd, rfl, h1, ⟨ad, cp, rfl, -⟩, -, ⟨adg, cpg, rfl, -⟩, -⟩ := hv; have HE : Hid (decide ((l.erase f).length < l.length) = decide (f ∈ l)) := erase_lt f l; clear h1
  go_enter Try.func36, Try.ntmps36
  go_wp2_with fail; go_ret; (exact ⟨by rw [← HE.out]; rfl, below_more (Below.refl _ w) _⟩)
set_option maxHeartbeats 1000000 in
theorem isRight_any (f : Fm) (l r : List Fm) (v : Value) (w : World) (hv : StV w v f l r) :
    Calls Try.prog 37 #[v] w fun e w' => e = .returned (.bool (decide (f ∈ r))) ∧ Below w.heap.size w w' := by
  obtain ⟨c0, c1, c2, vl, vr, vg, vd, rfl, h1, -, ⟨ad, cp, rfl, -⟩, -, ⟨adg, cpg, rfl, -⟩⟩ := hv; have HE : Hid (decide ((r.erase f).length < r.length) = decide (f ∈ r)) := erase_lt f r; clear h1
  go_enter Try.func37, Try.ntmps37
  go_wp2_with fail; go_ret; (exact ⟨by rw [← HE.out]; rfl, below_more (Below.refl _ w) _⟩)

set_option maxHeartbeats 1000000 in
theorem stepA_any (k : Int) (n : ByteArray) (a : Fm) (ks : List Fm) (l r : List Fm) (v : Value) (w : World) (hv : StV w v (.mk k n (a :: ks)) l r) :
    Calls Try.prog 43 #[v] w fun e w' => ∃ x, e = .returned x ∧ Rep w' (fun _ => True) a x ∧ Below w.heap.size w w' := by
  obtain ⟨c0, c1, c2, vl, vr, vg, vd, rfl, h1, -⟩ := hv; obtain ⟨sl, cap, hv0, -, hkc, hcm, hks⟩ := Rep.def.1 h1; simp only [Value.agg.injEq, Array.mk.injEq, List.cons.injEq, and_true] at hv0; obtain ⟨rfl, rfl, rfl⟩ := hv0; (obtain ⟨b, off, rfl, -, hrs⟩ := hks (by simp)); obtain ⟨ka, na, ksa⟩ := a; obtain ⟨sla, capa, g0, g1, g2, hra⟩ := hrs.at 0 ka na ksa rfl; simp only [Nat.zero_mul, Nat.add_zero] at g0 g1 g2; (have hc0 : (0 : Int) < ((ks.length : Int) + 1) := by omega); (have hlI : ((ks.length : Int) + 1) ≤ 9223372036854775807 := by unfold maxLen at hcm; simp at hkc; omega); (have HR : Hid (Rep w (fun _ => True) (.mk ka na ksa) (.agg #[.int .i64 ka, .string na, .slice sla ksa.length capa])) := hra); have z0 := lt_of_cell g0; simp only at z0; (have d0 : ¬ b = w.heap.size := by omega); (have d1 : ¬ b = w.heap.size + 1 := by omega); clear h1 hrs hks hra hkc hcm
  go_enter Try.func43, Try.ntmps43
  go_wp2_with fail; (exact bodyPost_ret (v := .agg #[.int .i64 ka, .string na, .slice sla ksa.length capa]) (by simp [results, Try.results43, go_sem]) rfl ⟨_, rfl, (HR.out.more _).more _, below_more (below_more (Below.refl _ w) _) _⟩)
set_option maxHeartbeats 1000000 in
theorem stepB_any (k : Int) (n : ByteArray) (a0 a : Fm) (ks : List Fm) (l r : List Fm) (v : Value) (w : World) (hv : StV w v (.mk k n (a0 :: a :: ks)) l r) :
    Calls Try.prog 44 #[v] w fun e w' => ∃ x, e = .returned x ∧ Rep w' (fun _ => True) a x ∧ Below w.heap.size w w' := by
  obtain ⟨c0, c1, c2, vl, vr, vg, vd, rfl, h1, -⟩ := hv; obtain ⟨sl, cap, hv0, -, hkc, hcm, hks⟩ := Rep.def.1 h1; simp only [Value.agg.injEq, Array.mk.injEq, List.cons.injEq, and_true] at hv0; obtain ⟨rfl, rfl, rfl⟩ := hv0; (obtain ⟨b, off, rfl, -, hrs⟩ := hks (by simp)); obtain ⟨ka, na, ksa⟩ := a; obtain ⟨sla, capa, g0, g1, g2, hra⟩ := hrs.at 1 ka na ksa rfl; simp only [Nat.one_mul] at g0 g1 g2; (have hc0 : (1 : Int) < ((ks.length : Int) + 1 + 1) := by omega); (have hlI : ((ks.length : Int) + 1 + 1) ≤ 9223372036854775807 := by unfold maxLen at hcm; simp at hkc; omega); (have HR : Hid (Rep w (fun _ => True) (.mk ka na ksa) (.agg #[.int .i64 ka, .string na, .slice sla ksa.length capa])) := hra); have z0 := lt_of_cell g0; simp only at z0; (have d0 : ¬ b = w.heap.size := by omega); (have d1 : ¬ b = w.heap.size + 1 := by omega); clear h1 hrs hks hra hkc hcm
  go_enter Try.func44, Try.ntmps44
  go_wp2_with fail; (exact bodyPost_ret (v := .agg #[.int .i64 ka, .string na, .slice sla ksa.length capa]) (by simp [results, Try.results44, go_sem]) rfl ⟨_, rfl, (HR.out.more _).more _, below_more (below_more (Below.refl _ w) _) _⟩)
end Go.Proofs.Ytlmjnglcdgkomac
/- Sequents in memory; facts that stay. -/
namespace Go.Proofs.Ytlmjnglcdgkomac
open Go.RowKit

def SQs (w : World) (v : Value) (ss : List (List Fm × List Fm)) : Prop := ∃ ad cap, v = .slice ad ss.length cap ∧ ss.length ≤ cap ∧ cap ≤ maxLen ∧ (ss ≠ [] → ∃ b off, ad = some ⟨b, off, none⟩ ∧ ∀ (j : Nat) (s : List Fm × List Fm), ss[j]? = some s → ∃ vl vr, w.cell? ⟨b, off + j * 2, none⟩ = some vl ∧ w.cell? ⟨b, off + j * 2 + 1, none⟩ = some vr ∧ FL w vl s.1 ∧ FL w vr s.2)
theorem SQs.up {w w' : World} {v : Value} {ss : List (List Fm × List Fm)} (h : SQs w v ss) (hb : Below w.heap.size w w') : SQs w' v ss := by
  obtain ⟨ad, cap, h1, h2, h3, h4⟩ := h; (refine ⟨ad, cap, h1, h2, h3, fun hne => ?_⟩); obtain ⟨b, off, h5, h6⟩ := h4 hne; (refine ⟨b, off, h5, fun j s hs => ?_⟩); obtain ⟨vl, vr, h7, h8, h9, h10⟩ := h6 j s hs; exact ⟨vl, vr, (hb.cell (p := ⟨b, off + j * 2, none⟩) (lt_of_cell h7)).trans h7, (hb.cell (p := ⟨b, off + j * 2 + 1, none⟩) (lt_of_cell h8)).trans h8, h9.up hb, h10.up hb⟩
theorem SQs.nil {w : World} : SQs w (.slice none 0 0) [] := ⟨none, 0, rfl, Nat.le_refl _, by simp, fun h => absurd rfl h⟩
theorem SQs.one {w : World} {b : Nat} {T : TypeId} {vl vr : Value} {s : List Fm × List Fm} (hb : w.heap[b]? = some (.cells #[vl, vr] T (0, 0))) (h1 : FL w vl s.1) (h2 : FL w vr s.2) : SQs w (.slice (some ⟨b, 0, none⟩) 1 1) [s] := by
  (refine ⟨_, 1, rfl, Nat.le_refl _, by simp [maxLen], fun _ => ⟨b, 0, rfl, fun j t ht => ?_⟩⟩)
  cases j with
  | zero => simp at ht; subst ht; exact ⟨vl, vr, blk_cell hb 0, blk_cell hb 1, h1, h2⟩
  | succ j => simp at ht
theorem SQs.two {w : World} {b : Nat} {T : TypeId} {vl vr vl' vr' : Value} {s s' : List Fm × List Fm} (hb : w.heap[b]? = some (.cells #[vl, vr, vl', vr'] T (0, 0))) (h1 : FL w vl s.1) (h2 : FL w vr s.2) (h3 : FL w vl' s'.1) (h4 : FL w vr' s'.2) : SQs w (.slice (some ⟨b, 0, none⟩) 2 2) [s, s'] := by
  (refine ⟨_, 2, rfl, Nat.le_refl _, by simp [maxLen], fun _ => ⟨b, 0, rfl, fun j t ht => ?_⟩⟩)
  rcases j with _ | _ | j
  · simp at ht; subst ht; exact ⟨vl, vr, blk_cell hb 0, blk_cell hb 1, h1, h2⟩
  · simp at ht; subst ht; exact ⟨vl', vr', blk_cell hb 2, blk_cell hb 3, h3, h4⟩
  · simp at ht
theorem FL.sing {w : World} {b : Nat} {T : TypeId} {c0 c1 c2 : Value} {f : Fm} (hb : w.heap[b]? = some (.cells #[c0, c1, c2] T (0, 0))) (h : Rep w (fun _ => True) f (.agg #[c0, c1, c2])) : FL w (.slice (some ⟨b, 0, none⟩) 1 1) [f] :=
  ⟨_, 1, rfl, Nat.le_refl _, by simp [maxLen], fun _ => ⟨b, 0, rfl, Reps.cons.2 ⟨⟨c0, c1, c2, blk_cell hb 0, blk_cell hb 1, blk_cell hb 2, h⟩, Reps.nil⟩⟩⟩
theorem FL.duo {w : World} {b : Nat} {T : TypeId} {c0 c1 c2 c3 c4 c5 : Value} {f g : Fm} (hb : w.heap[b]? = some (.cells #[c0, c1, c2, c3, c4, c5] T (0, 0))) (h : Rep w (fun _ => True) f (.agg #[c0, c1, c2])) (h' : Rep w (fun _ => True) g (.agg #[c3, c4, c5])) : FL w (.slice (some ⟨b, 0, none⟩) 2 2) [f, g] :=
  ⟨_, 2, rfl, Nat.le_refl _, by simp [maxLen], fun _ => ⟨b, 0, rfl, Reps.cons.2 ⟨⟨c0, c1, c2, blk_cell hb 0, blk_cell hb 1, blk_cell hb 2, h⟩, Reps.cons.2 ⟨⟨c3, c4, c5, blk_cell hb 3, blk_cell hb 4, blk_cell hb 5, h'⟩, Reps.nil⟩⟩⟩⟩
theorem FL.none {w : World} : FL w (.slice none 0 0) [] := ⟨_, 0, rfl, Nat.le_refl _, by simp, fun h => absurd rfl h⟩

/-! The facts on the way through a region. -/
def kEq (x : Value) : Value → World → Prop := fun v _ => v = x
def kRep (k : Int) (n : ByteArray) (ks : List Fm) : Value → World → Prop := fun v w => ∃ sl cap, v = .agg #[.int .i64 k, .string n, .slice sl ks.length cap] ∧ Rep w (fun _ => True) (.mk k n ks) (.agg #[.int .i64 k, .string n, .slice sl ks.length cap])
def kFL (l : List Fm) : Value → World → Prop := fun v w => ∃ ad m cap, v = .slice ad m cap ∧ FL w (.slice ad m cap) l
def kSQ (s : List Fm × List Fm) : Value → World → Prop := fun v w => ∃ ad m cap ad' m' cap', v = .agg #[.slice ad m cap, .slice ad' m' cap'] ∧ FL w (.slice ad m cap) s.1 ∧ FL w (.slice ad' m' cap') s.2
def kSQs (ss : List (List Fm × List Fm)) : Value → World → Prop := fun v w => SQs w v ss
theorem kEq_stays (x : Value) : Stays (kEq x) := fun _ _ _ h _ => h
theorem kRep_stays (k : Int) (n : ByteArray) (ks : List Fm) : Stays (kRep k n ks) := fun _ _ _ h hb => by
  obtain ⟨sl, cap, hv, hr⟩ := h; exact ⟨sl, cap, hv, hr.up hb⟩
theorem kFL_stays (l : List Fm) : Stays (kFL l) := fun _ _ _ h hb => by
  obtain ⟨ad, m, cap, hv, hl⟩ := h; exact ⟨ad, m, cap, hv, hl.up hb⟩
theorem kSQ_stays (s : List Fm × List Fm) : Stays (kSQ s) := fun _ _ _ h hb => by
  obtain ⟨ad, m, cap, ad', m', cap', hv, h1, h2⟩ := h; exact ⟨ad, m, cap, ad', m', cap', hv, h1.up hb, h2.up hb⟩
theorem kSQs_stays (ss : List (List Fm × List Fm)) : Stays (kSQs ss) := fun _ _ _ h hb => SQs.up h hb
theorem kRep_of {k : Int} {n : ByteArray} {ks : List Fm} {w : World} {x : Value} (h : Rep w (fun _ => True) (.mk k n ks) x) : kRep k n ks x w := by
  obtain ⟨sl, cap, rfl⟩ := slice_shape h; exact ⟨sl, cap, rfl, h⟩
theorem kFL_of {l : List Fm} {w : World} {x : Value} (h : FL w x l) : kFL l x w := by
  have h' := h; obtain ⟨ad, cap, rfl, -⟩ := h; exact ⟨ad, _, cap, rfl, h'⟩
end Go.Proofs.Ytlmjnglcdgkomac
