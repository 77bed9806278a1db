/- Texts of one proof, one behind the other: SR2, SR3, SR4. -/
import Derived.Test.YtpiaeapgjljjhaaGreatB40
import Derived.Test.YtpiaeapgjljjhaaGreatB13
/- Walks: IsBig of the yardstick. -/
namespace Go.Proofs.YtpiaeapgjljjhaaGreat
open Go.RowKit

def bgT (k : Nat) (l : List UInt8) : Bool := if k = 0 then (match l with | [] => true | c :: l => capB c && l.all lettB) else l.all lettB
theorem bgT_all (l : List UInt8) : isBg l = (bgT 0 l && decide (0 < l.length) && decide (l.length < 9)) := by
  cases l with
  | nil => rfl
  | cons c l =>
    simp only [isBg, bgT, if_pos, List.length_cons, List.all_cons]; by_cases hc : capB c = true
    · have hl : lettB c = true := by unfold lettB capB at *; simp at *; omega
      (have e : decide (l.length + 1 ≤ 8) = decide (l.length + 1 < 9) := decide_eq_decide.2 (by omega)); rw [e, hc, hl]; simp [Bool.and_comm]
    · simp [hc]
theorem bgT_cap {c : UInt8} {l : List UInt8} {k : Nat} (hc : capB c = true) : bgT k (c :: l) = bgT (k + 1) l := by
  (have hl : lettB c = true := by unfold lettB capB at *; simp at *; omega); unfold bgT; (rw [if_neg (show ¬ k + 1 = 0 by omega)])
  split
  · simp [hc]
  · simp [hl]
theorem bgT_low {c : UInt8} {l : List UInt8} {k : Nat} (hk : k ≠ 0) (hc : lettB c = true) : bgT k (c :: l) = bgT (k + 1) l := by
  unfold bgT; (rw [if_neg (show ¬ k + 1 = 0 by omega), if_neg hk]); simp [hc]
theorem bgT_first {c : UInt8} {l : List UInt8} (hc : capB c = false) : bgT 0 (c :: l) = false := by
  unfold bgT; simp [hc]
theorem bgT_no {c : UInt8} {l : List UInt8} {k : Nat} (hc : capB c = false) (hl : lettB c = false) : bgT k (c :: l) = false := by
  unfold bgT
  split
  · simp [hc]
  · simp [hl]
set_option maxHeartbeats 2000000 in
theorem refBig_any (s : ByteArray) (hs : s.size ≤ maxLen) (w : World) :
    Calls Tryz.prog 72 #[.string s] w fun e w' => e = .returned (.bool (isBg s.data.toList)) ∧ w' = w := by
  have hsz : s.data.toList.length = s.size := Array.length_toList; unfold maxLen at hs; have HN : Hid (isBg s.data.toList = (bgT 0 s.data.toList && decide (0 < s.data.toList.length) && decide (s.data.toList.length < 9))) := bgT_all _; have HZ : Hid (s.data.toList.length = s.size) := hsz; clear hsz
  go_enter Tryz.func72, Tryz.ntmps72
  go_wp2
  go_loop [3] (fun v => ∃ k l, At s k l ∧ v = .int .i64 (k : Nat) ∧ bgT 0 s.data.toList = bgT k l) (fun v => s.size - (intOf v).toNat)
  case atStart => exact ⟨0, s.data.toList, ⟨Nat.zero_le _, by simp⟩, rfl, rfl⟩
  case round =>
    obtain ⟨k, l, ha, rfl, hl⟩ := hrel; have hlen := ha.len; have HL : Hid (At s k l ∧ bgT 0 s.data.toList = bgT k l) := ⟨ha, hl⟩; clear ha hl
    cases l with
    | nil =>
      simp at hlen; (have hd : decide ((k : Int) < (s.size : Int)) = false := by simp; omega); go_wp2
      all_goals
        go_ret; refine ⟨ret_bool ?_, rfl⟩; rw [HN.out, HL.out.2, HZ.out]; (have e : bgT k [] = true := by unfold bgT; split <;> rfl); rw [e, Bool.eq_iff_iff]; simp only [Bool.true_and, Bool.and_eq_true, decide_eq_true_eq, Bool.false_eq_true, false_iff]
        omega
    | cons c l =>
      simp at hlen; (have hlt' : k < s.size := by omega); (have hlt : (k : Int) < (s.size : Int) := by omega); have hhd : s[k] = c := HL.out.1.head hlt'; by_cases hc : capB c = true
      · have hx : (65 : Int) ≤ (s[k].toNat : Int) := by rw [hhd]; simp [capB] at hc; omega
        (have hy : (s[k].toNat : Int) ≤ 90 := by rw [hhd]; simp [capB] at hc; omega); (have hz : ¬ (97 : Int) ≤ (s[k].toNat : Int) := by omega); (have HMo : Hid (At s (k + 1) l ∧ bgT 0 s.data.toList = bgT (k + 1) l) := ⟨HL.out.1.cons, by rw [HL.out.2, bgT_cap hc]⟩); clear hhd hc; go_wp2
        go_round
        case rel => exact ⟨k + 1, l, HMo.out.1, by go_num, HMo.out.2⟩
        case measure => simp [intOf]; omega
      · have hcf : capB c = false := by simpa using hc
        (have hx : ¬ ((65 : Int) ≤ (s[k].toNat : Int) ∧ (s[k].toNat : Int) ≤ 90) := by rw [hhd]; simp [capB] at hcf; omega); (have hcn : (c.toNat : Int) = (s[k].toNat : Int) := by rw [hhd]); by_cases a1 : (65 : Int) ≤ (s[k].toNat : Int)
        · have a9 : (90 : Int) < (s[k].toNat : Int) := by omega
          (have d1 : decide ((s[k].toNat : Int) ≤ 90) = false := by rw [decide_eq_false_iff_not]; omega); by_cases a2 : (97 : Int) ≤ (s[k].toNat : Int)
          · by_cases a3 : (s[k].toNat : Int) ≤ 122
            · have hl : lettB c = true := by simp [capB, lettB] at hcf ⊢; omega
              by_cases hk : k = 0
              · have HF : Hid (bgT 0 s.data.toList = false) := by show _ = _; rw [HL.out.2, hk, bgT_first hcf]
                (have hk0 : ((k : Int) == 0) = true := by rw [hk]; rfl); clear hhd hc hcf hl hk hx hcn a9; go_wp2
                all_goals
                  go_ret; refine ⟨ret_bool ?_, rfl⟩; rw [HN.out, HF.out]
                  simp
              · have HMo : Hid (At s (k + 1) l ∧ bgT 0 s.data.toList = bgT (k + 1) l) := ⟨HL.out.1.cons, by rw [HL.out.2, bgT_low hk hl]⟩
                (have hk0 : ((k : Int) == 0) = false := by simpa using hk); clear hhd hc hcf hl hk hx hcn a9; go_wp2
                go_round
                case rel => exact ⟨k + 1, l, HMo.out.1, by go_num, HMo.out.2⟩
                case measure => simp [intOf]; omega
            · have d3 : decide ((s[k].toNat : Int) ≤ 122) = false := by rw [decide_eq_false_iff_not]; omega
              (have HF : Hid (bgT 0 s.data.toList = false) := by show _ = _; rw [HL.out.2, bgT_no hcf (by simp [capB, lettB] at hcf ⊢; omega)]); clear hcn hhd hc hcf hx; go_wp2
              all_goals
                go_ret; refine ⟨ret_bool ?_, rfl⟩; rw [HN.out, HF.out]
                simp
          · have HF : Hid (bgT 0 s.data.toList = false) := by show _ = _; rw [HL.out.2, bgT_no hcf (by simp [capB, lettB] at hcf ⊢; omega)]
            clear hcn hhd hc hcf hx; go_wp2
            all_goals
              go_ret; refine ⟨ret_bool ?_, rfl⟩; rw [HN.out, HF.out]
              simp
        · have a2 : ¬ (97 : Int) ≤ (s[k].toNat : Int) := by omega
          (have HF : Hid (bgT 0 s.data.toList = false) := by show _ = _; rw [HL.out.2, bgT_no hcf (by simp [capB, lettB] at hcf ⊢; omega)]); clear hcn hhd hc hcf hx; go_wp2
          all_goals
            go_ret; refine ⟨ret_bool ?_, rfl⟩; rw [HN.out, HF.out]
            simp
end Go.Proofs.YtpiaeapgjljjhaaGreat
/- Walks: StructureFault of the yardstick, where there is too much of something. (gen/sr3.py) -/
namespace Go.Proofs.YtpiaeapgjljjhaaGreat
open Go.RowKit

set_option maxRecDepth 10000 in
set_option maxHeartbeats 8000000 in
theorem sfMany_any (s : StD) (v : Value) (w : World) (hS : StR w s v) (hok : ¬ (1 ≤ s.n ∧ s.n ≤ 8 ∧ s.funs.length ≤ 10 ∧ s.preds.length ≤ 10)) :
    Calls Tryz.prog 35 #[v] w fun e w' => e = .returned (.agg #[.int .i64 2, .int .i64 0]) ∧ Below w.heap.size w w' := by
  obtain ⟨af, cf, ap, cp, rfl, hF, hP⟩ := hS; obtain ⟨W, hWe⟩ : ∃ W, (w.alloc (.cells #[.int .i64 s.n, .slice af s.funs.length cf, .slice ap s.preds.length cp] 62 (0, 0))).alloc (.cells #[.int .i64 0, .int .i64 0] 30 (0, 0)) = W := ⟨_, rfl⟩; (have hBW : Below w.heap.size w W := by rw [← hWe]; exact below_more (below_more (Below.refl _ _) _) _); (have hq0 : W.heap[w.heap.size]? = some (.cells #[.int .i64 s.n, .slice af s.funs.length cf, .slice ap s.preds.length cp] 62 (0, 0)) := by rw [← hWe]; exact alloc_keep (blk_new _ _) _)
  have hq1 : W.heap[w.heap.size + 1]? = some (.cells #[.int .i64 0, .int .i64 0] 30 (0, 0)) := by
    have := blk_new (w.alloc (.cells #[.int .i64 s.n, .slice af s.funs.length cf, .slice ap s.preds.length cp] 62 (0, 0))) (.cells #[.int .i64 0, .int .i64 0] 30 (0, 0)); rw [← hWe]; simpa using this
  have HBW : Hid (Below w.heap.size w W) := hBW; have HQ1 : Hid (W.heap[w.heap.size + 1]? = some (.cells #[.int .i64 0, .int .i64 0] 30 (0, 0))) := hq1; (have hfm : s.funs.length ≤ maxLen := by obtain ⟨_, _, e, h1, h2, _⟩ := hF; omega); (have hpm : s.preds.length ≤ maxLen := by obtain ⟨_, _, e, h1, h2, _⟩ := hP; omega); (have hfI : ((s.funs.length : Nat) : Int) ≤ 9223372036854775807 := by unfold maxLen at hfm; omega); (have hpI : ((s.preds.length : Nat) : Int) ≤ 9223372036854775807 := by unfold maxLen at hpm; omega); obtain ⟨a0, a1, a2, -⟩ := blk3 hq0; obtain ⟨k1, k2, k3, k4⟩ := blk2 hq1; have hs1 := lt_of_block hq0; have hs2 := lt_of_block hq1; clear hfm hpm hF hP hBW hq0 hq1; by_cases h1 : s.n < 1
  · clear hok
    go_enter Tryz.func35, Tryz.ntmps35
    go_wp2_with fail; refine (mkF_any 2 0 _).mono ?_; rintro _ w1 ⟨rfl, hb1⟩; have f1 := below_keep hb1 HQ1.out; have b1 := below_join HBW.out hb1; clear k1 k2 k3 k4 a0 a1 a2 hb1; obtain ⟨k1, k2, k3, k4⟩ := blk2 f1; go_wp2_with fail; have f2 := set2 f1 (.int .i64 2) (.int .i64 0); (have b2 := (b1.setCell (p := ⟨w.heap.size + 1, 0, none⟩) (by simp) (.int .i64 2)).setCell (p := ⟨w.heap.size + 1, 1, none⟩) (by simp) (.int .i64 0)); generalize World.setCell _ _ _ = F at f2 b2 ⊢; clear k1 k2 k3 k4; obtain ⟨k1, k2, -⟩ := blk2 f2; (exact bodyPost_ret (v := .agg #[.int .i64 2, .int .i64 0]) (by simp [results, Tryz.results35, go_sem, k1, k2]) rfl ⟨rfl, b2⟩)
  by_cases h8 : 8 < s.n
  · clear hok
    go_enter Tryz.func35, Tryz.ntmps35
    go_wp2_with fail; refine (mkF_any 2 0 _).mono ?_; rintro _ w1 ⟨rfl, hb1⟩; have f1 := below_keep hb1 HQ1.out; have b1 := below_join HBW.out hb1; clear k1 k2 k3 k4 a0 a1 a2 hb1; obtain ⟨k1, k2, k3, k4⟩ := blk2 f1; go_wp2_with fail; have f2 := set2 f1 (.int .i64 2) (.int .i64 0); (have b2 := (b1.setCell (p := ⟨w.heap.size + 1, 0, none⟩) (by simp) (.int .i64 2)).setCell (p := ⟨w.heap.size + 1, 1, none⟩) (by simp) (.int .i64 0)); generalize World.setCell _ _ _ = F at f2 b2 ⊢; clear k1 k2 k3 k4; obtain ⟨k1, k2, -⟩ := blk2 f2; (exact bodyPost_ret (v := .agg #[.int .i64 2, .int .i64 0]) (by simp [results, Tryz.results35, go_sem, k1, k2]) rfl ⟨rfl, b2⟩)
  by_cases hf : 10 < s.funs.length
  · have hfJ : (10 : Int) < (s.funs.length : Int) := by omega
    clear hok hf
    go_enter Tryz.func35, Tryz.ntmps35
    go_wp2_with fail; refine (mkF_any 2 0 _).mono ?_; rintro _ w1 ⟨rfl, hb1⟩; have f1 := below_keep hb1 HQ1.out; have b1 := below_join HBW.out hb1; clear k1 k2 k3 k4 a0 a1 a2 hb1; obtain ⟨k1, k2, k3, k4⟩ := blk2 f1; go_wp2_with fail; have f2 := set2 f1 (.int .i64 2) (.int .i64 0); (have b2 := (b1.setCell (p := ⟨w.heap.size + 1, 0, none⟩) (by simp) (.int .i64 2)).setCell (p := ⟨w.heap.size + 1, 1, none⟩) (by simp) (.int .i64 0)); generalize World.setCell _ _ _ = F at f2 b2 ⊢; clear k1 k2 k3 k4; obtain ⟨k1, k2, -⟩ := blk2 f2; (exact bodyPost_ret (v := .agg #[.int .i64 2, .int .i64 0]) (by simp [results, Tryz.results35, go_sem, k1, k2]) rfl ⟨rfl, b2⟩)
  · have hfJ : ¬ (10 : Int) < (s.funs.length : Int) := by omega
    (have hpJ : (10 : Int) < (s.preds.length : Int) := by omega); clear hok hf
    go_enter Tryz.func35, Tryz.ntmps35
    go_wp2_with fail; refine (mkF_any 2 0 _).mono ?_; rintro _ w1 ⟨rfl, hb1⟩; have f1 := below_keep hb1 HQ1.out; have b1 := below_join HBW.out hb1; clear k1 k2 k3 k4 a0 a1 a2 hb1; obtain ⟨k1, k2, k3, k4⟩ := blk2 f1; go_wp2_with fail; have f2 := set2 f1 (.int .i64 2) (.int .i64 0); (have b2 := (b1.setCell (p := ⟨w.heap.size + 1, 0, none⟩) (by simp) (.int .i64 2)).setCell (p := ⟨w.heap.size + 1, 1, none⟩) (by simp) (.int .i64 0)); generalize World.setCell _ _ _ = F at f2 b2 ⊢; clear k1 k2 k3 k4; obtain ⟨k1, k2, -⟩ := blk2 f2; (exact bodyPost_ret (v := .agg #[.int .i64 2, .int .i64 0]) (by simp [results, Tryz.results35, go_sem, k1, k2]) rfl ⟨rfl, b2⟩)
end Go.Proofs.YtpiaeapgjljjhaaGreat
/- Walks: StructureFault of the yardstick, where there is not too much. (gen/sr4.py) -/
namespace Go.Proofs.YtpiaeapgjljjhaaGreat
open Go.RowKit

def sfSeen (l : List (List UInt8)) (i : Nat) : List (List UInt8) := (l.take i).reverse
def sfBad (l : List (List UInt8)) (k : Nat) (nm : List UInt8) : Bool := !isBg nm || (l.take k).any fun x => x == nm
theorem sfBad_zero (l : List (List UInt8)) (nm : List UInt8) : sfBad l 0 nm = !isBg nm := by unfold sfBad; simp
theorem sfBad_next {l : List (List UInt8)} {k : Nat} {x nm : List UInt8} (h : l[k]? = some x) : sfBad l (k + 1) nm = (sfBad l k nm || x == nm) := by
  unfold sfBad; rw [take_snocG h, List.any_append]; simp [Bool.or_assoc]
theorem sfBad_seen (l : List (List UInt8)) (i : Nat) (nm : List UInt8) : sfBad l i nm = true ↔ (decide (nm ∈ sfSeen l i) = true ∨ isBg nm = false) := by
  unfold sfBad sfSeen; simp only [Bool.or_eq_true, Bool.not_eq_true', List.any_eq_true, beq_iff_eq, decide_eq_true_eq, List.mem_reverse]
  constructor
  · rintro (h | ⟨x, hx, rfl⟩)
    · exact Or.inr h
    · exact Or.inl hx
  · rintro (h | h)
    · exact Or.inr ⟨nm, h, rfl⟩
    · exact Or.inl h
theorem sfSeen_next {l : List (List UInt8)} {i : Nat} {x : List UInt8} (h : l[i]? = some x) : sfSeen l (i + 1) = x :: sfSeen l i := by
  unfold sfSeen; rw [take_snocG h, List.reverse_append]; rfl
theorem lsc_fun {N : Nat} {s : StD} {c : Int} {i : Nat} (h : cfF N 0 [] s.funs = some (c, i)) : lscode N s = (c, (i : Int)) := by
  unfold lscode lsF; rw [h]
theorem lsc_pred {N : Nat} {s : StD} {c : Int} {a b : Nat} (h0 : cfF N 0 [] s.funs = none) (h : pfF N s.funs.length [] s.preds = some (c, a + b)) : lscode N s = (c, (a : Int) + (b : Int)) := by
  unfold lscode lsF; rw [h0, h]
  simp
theorem lsc_none {N : Nat} {s : StD} (h0 : cfF N 0 [] s.funs = none) (h : pfF N s.funs.length [] s.preds = none) : lscode N s = (0, 0) := by
  unfold lscode lsF; rw [h0, h]
theorem any_bad {l : List Int} {j : Nat} {x : Int} {N : Nat} (hx : l[j]? = some x) (h : thingB N x = false) : (l.any fun y => !thingB N y) = true := by
  rw [List.any_eq_true]; (exact ⟨x, List.mem_of_getElem? hx, by rw [h]; rfl⟩)
theorem any_good {l : List Int} {N : Nat} (h : ∀ i x, i < l.length → l[i]? = some x → thingB N x = true) : (l.any fun y => !thingB N y) = false := by
  rw [List.any_eq_false]; intro x hx; obtain ⟨i, hi⟩ := List.getElem?_of_mem hx; rw [h i x (List.getElem?_eq_some_iff.1 hi).1 hi]
  simp
set_option maxRecDepth 10000 in
set_option maxHeartbeats 16000000 in
theorem sfFine_any (N : Nat) (s : StD) (hN : s.n = (N : Int)) (v : Value) (w : World) (hS : StR w s v) (h1N : 1 ≤ N) (hN8 : N ≤ 8) (hf10 : s.funs.length ≤ 10) (hp10 : s.preds.length ≤ 10) :
    Calls Tryz.prog 35 #[v] w fun e w' => e = .returned (.agg #[.int .i64 (lscode N s).1, .int .i64 (lscode N s).2]) ∧ Below w.heap.size w w' := by
  obtain ⟨af, cf, ap, cp, rfl, hF, hP⟩ := hS; rw [hN]; obtain ⟨W, hWe⟩ : ∃ W, (w.alloc (.cells #[.int .i64 (N : Nat), .slice af s.funs.length cf, .slice ap s.preds.length cp] 62 (0, 0))).alloc (.cells #[.int .i64 0, .int .i64 0] 30 (0, 0)) = W := ⟨_, rfl⟩; (have hBW : Below w.heap.size w W := by rw [← hWe]; exact below_more (below_more (Below.refl _ _) _) _); (have hq0 : W.heap[w.heap.size]? = some (.cells #[.int .i64 (N : Nat), .slice af s.funs.length cf, .slice ap s.preds.length cp] 62 (0, 0)) := by rw [← hWe]; exact alloc_keep (blk_new _ _) _)
  have hq1 : W.heap[w.heap.size + 1]? = some (.cells #[.int .i64 0, .int .i64 0] 30 (0, 0)) := by
    have := blk_new (w.alloc (.cells #[.int .i64 (N : Nat), .slice af s.funs.length cf, .slice ap s.preds.length cp] 62 (0, 0))) (.cells #[.int .i64 0, .int .i64 0] 30 (0, 0)); rw [← hWe]; simpa using this
  have HBW : Hid (Below w.heap.size w W) := hBW; have HS0 : Hid (W.heap[w.heap.size]? = some (.cells #[.int .i64 (N : Nat), .slice af s.funs.length cf, .slice ap s.preds.length cp] 62 (0, 0))) := hq0; have HQ0 : Hid (W.heap[w.heap.size + 1]? = some (.cells #[.int .i64 0, .int .i64 0] 30 (0, 0))) := hq1; obtain ⟨af', cf', e, f1, f2, f3⟩ := hF; simp only [Value.slice.injEq, true_and] at e; obtain ⟨rfl, rfl⟩ := e; obtain ⟨ap', cp', e, p1, p2, p3⟩ := hP; simp only [Value.slice.injEq, true_and] at e; obtain ⟨rfl, rfl⟩ := e; have HF : Hid (s.funs ≠ [] → ∃ g off, af = some ⟨g, off, none⟩ ∧ ∀ (i : Nat) (f : FnD), s.funs[i]? = some f → ∃ sl cp, w.cell? ⟨g, off + i * 3, none⟩ = some (.string f.nm) ∧ w.cell? ⟨g, off + i * 3 + 1, none⟩ = some (.int .i64 f.ar) ∧ w.cell? ⟨g, off + i * 3 + 2, none⟩ = some (.slice sl f.tab.length cp) ∧ FnR w f (.agg #[.string f.nm, .int .i64 f.ar, .slice sl f.tab.length cp])) := f3; have HP : Hid (s.preds ≠ [] → ∃ g off, ap = some ⟨g, off, none⟩ ∧ ∀ (i : Nat) (f : PdD), s.preds[i]? = some f → ∃ sl cp, w.cell? ⟨g, off + i * 3, none⟩ = some (.string f.nm) ∧ w.cell? ⟨g, off + i * 3 + 1, none⟩ = some (.int .i64 f.ar) ∧ w.cell? ⟨g, off + i * 3 + 2, none⟩ = some (.slice sl f.bits.length cp) ∧ PdR w f (.agg #[.string f.nm, .int .i64 f.ar, .slice sl f.bits.length cp])) := p3; (have hfI : ((s.funs.length : Nat) : Int) ≤ 10 := by omega); (have hpI : ((s.preds.length : Nat) : Int) ≤ 10 := by omega); (have hNI : ((N : Nat) : Int) ≤ 8 := by omega); (have hNI1 : ¬ ((N : Nat) : Int) < 1 := by omega); (have HL : Hid (lscode N s = match (match cfF N 0 [] s.funs with | some c => some c | none => pfF N s.funs.length [] s.preds) with | none => (0, 0) | some p => (p.1, (p.2 : Int))) := rfl); have HE0 : Hid (cfF N 0 (sfSeen (s.funs.map (·.nm.data.toList)) 0) (s.funs.drop 0) = cfF N 0 [] s.funs) := rfl; have HN8 : Hid (N ≤ 8 ∧ 1 ≤ N) := ⟨hN8, h1N⟩; obtain ⟨a0, a1, a2, -⟩ := blk3 hq0; have hs1 := lt_of_block hq0; clear f1 f2 f3 p1 p2 p3 hBW hq0 hq1 hf10 hp10 h1N hN8 hN
  go_enter Tryz.func35, Tryz.ntmps35
  go_wp2_with fail; clear a0 a1 a2 hs1 hWe
  go_loopg [3] s.funs.length (fun g c wr => ∃ i, i ≤ s.funs.length ∧ g = s.funs.length - i ∧ c = .int .i64 (i : Nat) ∧ Hid (cfF N i (sfSeen (s.funs.map (·.nm.data.toList)) i) (s.funs.drop i) = cfF N 0 [] s.funs) ∧ Hid (Below w.heap.size w wr) ∧ Hid (wr.heap[w.heap.size]? = some (.cells #[.int .i64 (N : Nat), .slice af s.funs.length cf, .slice ap s.preds.length cp] 62 (0, 0))) ∧ Hid (wr.heap[w.heap.size + 1]? = some (.cells #[.int .i64 0, .int .i64 0] 30 (0, 0))))
  case atStart => exact ⟨0, by omega, by omega, rfl, HE0, HBW, HS0, HQ0⟩
  case round =>
    obtain ⟨i, hile, hg, rfl, HE, HB, HSb, HQ⟩ := hrel; have HG : Hid (gk = s.funs.length - i) := hg; clear hg HBW HS0 HQ0 HE0; obtain ⟨a0, a1, a2, -⟩ := blk3 HSb.out; have hs1 := lt_of_block HSb.out; by_cases hlt : i < s.funs.length
    · obtain ⟨f, hfi⟩ : ∃ x, s.funs[i]? = some x := ⟨_, List.getElem?_eq_getElem hlt⟩
      (obtain ⟨g, off, rfl, hc⟩ := HF.out (fun e => by rw [e] at hlt; simp at hlt)); obtain ⟨sl, cq, z0, z1, z2, hfr⟩ := hc i f hfi; have y0 := (HB.out.cell (lt_of_cell z0)).trans z0; have y1 := (HB.out.cell (lt_of_cell z1)).trans z1; have y2 := (HB.out.cell (lt_of_cell z2)).trans z2; (have hltI : (i : Int) < (s.funs.length : Int) := by omega); have hd := HE.out; rw [cfF_drop hfi] at hd; have HD : Hid _ := hd; obtain ⟨sl', cq', e, hnm, hil⟩ := hfr; simp only [Value.agg.injEq, Array.mk.injEq, List.cons.injEq, Value.slice.injEq, and_true, true_and] at e; obtain ⟨rfl, rfl⟩ := e
      have htl : ((f.tab.length : Nat) : Int) ≤ 9223372036854775807 := by
        obtain ⟨_, _, _, h1, h2, _⟩ := hil; unfold maxLen at h2; omega
      have HIl : Hid (IL w (.slice sl f.tab.length cq) f.tab) := hil; have HNm : Hid (f.nm.size ≤ maxLen) := hnm
      have HNk : Hid (∀ k, k < s.funs.length → ∃ fk : FnD, (s.funs.map (·.nm.data.toList))[k]? = some fk.nm.data.toList ∧ w.cell? ⟨g, off + k * 3, none⟩ = some (.string fk.nm)) := fun k hk => by
        obtain ⟨fk, hfk⟩ : ∃ x, s.funs[k]? = some x := ⟨_, List.getElem?_eq_getElem hk⟩; obtain ⟨_, _, u0, -⟩ := hc k fk hfk; (exact ⟨fk, by rw [List.getElem?_map, hfk]; rfl, u0⟩)
      (have HSeen : Hid (sfSeen (s.funs.map (·.nm.data.toList)) (i + 1) = f.nm.data.toList :: sfSeen (s.funs.map (·.nm.data.toList)) i) := sfSeen_next (by rw [List.getElem?_map, hfi]; rfl)); have HLt : Hid (i < s.funs.length) := hlt; obtain ⟨V, hV⟩ : ∃ V, wr.alloc (.cells #[.string f.nm, .int .i64 f.ar, .slice sl f.tab.length cq] 112 (0, 0)) = V := ⟨_, rfl⟩; (have HBV : Hid (Below wr.heap.size wr V) := by rw [← hV]; exact below_more (Below.refl _ _) _); have HBv : Hid (Below w.heap.size w V) := below_join HB.out HBV.out; have HSv : Hid (V.heap[w.heap.size]? = some (.cells #[.int .i64 (N : Nat), .slice (some ⟨g, off, none⟩) s.funs.length cf, .slice ap s.preds.length cp] 62 (0, 0))) := below_keep HBV.out HSb.out; have HQv : Hid (V.heap[w.heap.size + 1]? = some (.cells #[.int .i64 0, .int .i64 0] 30 (0, 0))) := below_keep HBV.out HQ.out; (have HFv : Hid (V.heap[wr.heap.size]? = some (.cells #[.string f.nm, .int .i64 f.ar, .slice sl f.tab.length cq] 112 (0, 0))) := by rw [← hV]; exact blk_new _ _); obtain ⟨k0, k1, k2, -⟩ := blk3 HFv.out; obtain ⟨s0, s1, s2, -⟩ := blk3 HSv.out; have hs3 := lt_of_block HFv.out; clear hfi hc z0 z1 z2 hlt hile hnm hil hd; go_wp2_with fail; refine (refBig_any f.nm HNm.out _).mono ?_; rintro _ w5 ⟨rfl, h5⟩; obtain rfl : V = w5 := h5.symm; clear h5 y0 y1 y2 a0 a1 a2 k0 k1 k2 s0 s1 s2; go_wp2_with fail; obtain ⟨ns, hns⟩ : ∃ ns, ns = (s.funs.map (·.nm.data.toList)) := ⟨_, rfl⟩; rw [← hns] at HNk HSeen HD; have HNS : Hid (ns = (s.funs.map (·.nm.data.toList))) := hns; clear hns; have HB0 : Hid (sfBad ns 0 f.nm.data.toList = !isBg f.nm.data.toList) := sfBad_zero _ _; generalize (!isBg f.nm.data.toList) = b0 at HB0 ⊢; have HB4 : Hid (w.heap.size ≤ wr.heap.size) := HB.out.size; generalize wr.heap.size = b4 at HFv HB4 ⊢
      go_loopg [6, 5] i (fun gg kk bd wr2 => ∃ k bb, k ≤ i ∧ gg = i - k ∧ kk = .int .i64 (k : Nat) ∧ bd = .bool bb ∧ Hid (sfBad ns k f.nm.data.toList = bb) ∧ Hid (Below V.heap.size V wr2))
      case atStart => exact ⟨0, _, by omega, by omega, rfl, rfl, HB0, Below.refl _ _⟩
      case round =>
        obtain ⟨k, bb, hkl, hg2, rfl, rfl, HBd, HW2⟩ := hrel; have HSv2 : Hid (wr.heap[w.heap.size]? = some (.cells #[.int .i64 (N : Nat), .slice (some ⟨g, off, none⟩) s.funs.length cf, .slice ap s.preds.length cp] 62 (0, 0))) := below_keep HW2.out HSv.out; have HFv2 : Hid (wr.heap[b4]? = some (.cells #[.string f.nm, .int .i64 f.ar, .slice sl f.tab.length cq] 112 (0, 0))) := below_keep HW2.out HFv.out; have HG2 : Hid (gk = i - k) := hg2; clear hg2 HB0; obtain ⟨a0, a1, a2, -⟩ := blk3 HSv2.out; obtain ⟨k0, k1, k2, -⟩ := blk3 HFv2.out; have hs1 := lt_of_block HSv2.out; have hs3 := lt_of_block HFv2.out; by_cases hki : k < i
        · have hkI : (k : Int) < (i : Int) := by omega
          (have hkF : (k : Int) < (s.funs.length : Int) := by omega); (obtain ⟨fk, hfk, zk⟩ := HNk.out k (by have := HLt.out; omega)); (have HNx : Hid (sfBad ns (k + 1) f.nm.data.toList = (bb || (fk.nm.toList == f.nm.toList))) := by show _ = _; rw [sfBad_next hfk, HBd.out, ByteArray.toList_eq, ByteArray.toList_eq]); have yk := ((below_join HBv.out HW2.out).cell (lt_of_cell zk)).trans zk; have HKi : Hid (k < i) := hki; clear hfk zk hki hkl
          cases bb
          · go_wp2_with fail
            go_quiet (fail)
            go_wp2_with fail
            go_roundg (i - (k + 1))
            case measure => have := HG2.out; have := HKi.out; omega
            case rel => exact ⟨k + 1, _, HKi.out, rfl, by go_num, rfl, HNx.out, below_drewN HW2.out _⟩
          · go_wp2_with fail
            go_quiet (fail)
            go_wp2_with fail
            go_roundg (i - (k + 1))
            case measure => have := HG2.out; have := HKi.out; omega
            case rel => exact ⟨k + 1, _, HKi.out, rfl, by go_num, rfl, HNx.out, below_drewN HW2.out _⟩
        · obtain rfl : k = i := by omega
          (have hge : ¬ (k : Int) < (k : Int) := by omega); have HBc : Hid (Below w.heap.size w wr) := below_join HBv.out HW2.out; have HQc : Hid (wr.heap[w.heap.size + 1]? = some (.cells #[.int .i64 0, .int .i64 0] 30 (0, 0))) := below_keep HW2.out HQv.out; clear hki hkl HNk
          cases bb
          case true =>
            have HLs : Hid (lscode N s = (8, (((k : Nat) : Int) : Int))) := by
              refine lsc_fun ?_; rw [← HD.out]; have := (sfBad_seen ns k f.nm.data.toList).1 HBd.out; unfold lkF; rw [if_pos this]
            go_wp2_with fail; refine (mkF_any 8 (((k : Nat) : Int)) _).mono ?_; rintro _ w6 ⟨rfl, hb6⟩; have f1 := below_keep hb6 HQc.out; have b1 := below_join HBc.out hb6; clear hb6; obtain ⟨e1, e2, e3, e4⟩ := blk2 f1; go_wp2_with fail; have f2 := set2 f1 (.int .i64 8) (.int .i64 (((k : Nat) : Int))); (have b2 := (b1.setCell (p := ⟨w.heap.size + 1, 0, none⟩) (by simp) (.int .i64 8)).setCell (p := ⟨w.heap.size + 1, 1, none⟩) (by simp) (.int .i64 (((k : Nat) : Int)))); generalize World.setCell _ _ _ = F at f2 b2 ⊢; clear e1 e2 e3 e4; obtain ⟨e1, e2, -⟩ := blk2 f2; (exact bodyPost_ret (v := .agg #[.int .i64 8, .int .i64 (((k : Nat) : Int))]) (by simp [results, Tryz.results35, go_sem, e1, e2]) rfl ⟨by rw [HLs.out], b2⟩)
          have hns : ¬ (decide (f.nm.data.toList ∈ sfSeen ns k) = true ∨ isBg f.nm.data.toList = false) := fun h => by
            have := (sfBad_seen ns k f.nm.data.toList).2 h; rw [HBd.out] at this
            cases this
          have HNs : Hid (¬ (decide (f.nm.data.toList ∈ sfSeen ns k) = true ∨ isBg f.nm.data.toList = false)) := hns; clear hns; by_cases ha0 : f.ar < 0
          · have HLs : Hid (lscode N s = (3, (((k : Nat) : Int) : Int))) := by
              refine lsc_fun ?_; rw [← HD.out]; unfold lkF; rw [if_neg HNs.out, if_pos (Or.inl ha0)]
            go_wp2_with fail; refine (mkF_any 3 (((k : Nat) : Int)) _).mono ?_; rintro _ w6 ⟨rfl, hb6⟩; have f1 := below_keep hb6 HQc.out; have b1 := below_join HBc.out hb6; clear hb6; obtain ⟨e1, e2, e3, e4⟩ := blk2 f1; go_wp2_with fail; have f2 := set2 f1 (.int .i64 3) (.int .i64 (((k : Nat) : Int))); (have b2 := (b1.setCell (p := ⟨w.heap.size + 1, 0, none⟩) (by simp) (.int .i64 3)).setCell (p := ⟨w.heap.size + 1, 1, none⟩) (by simp) (.int .i64 (((k : Nat) : Int)))); generalize World.setCell _ _ _ = F at f2 b2 ⊢; clear e1 e2 e3 e4; obtain ⟨e1, e2, -⟩ := blk2 f2; (exact bodyPost_ret (v := .agg #[.int .i64 3, .int .i64 (((k : Nat) : Int))]) (by simp [results, Tryz.results35, go_sem, e1, e2]) rfl ⟨by rw [HLs.out], b2⟩)
          by_cases ha3 : 3 < f.ar
          · have HLs : Hid (lscode N s = (3, (((k : Nat) : Int) : Int))) := by
              refine lsc_fun ?_; rw [← HD.out]; unfold lkF; rw [if_neg HNs.out, if_pos (Or.inr ha3)]
            go_wp2_with fail; refine (mkF_any 3 (((k : Nat) : Int)) _).mono ?_; rintro _ w6 ⟨rfl, hb6⟩; have f1 := below_keep hb6 HQc.out; have b1 := below_join HBc.out hb6; clear hb6; obtain ⟨e1, e2, e3, e4⟩ := blk2 f1; go_wp2_with fail; have f2 := set2 f1 (.int .i64 3) (.int .i64 (((k : Nat) : Int))); (have b2 := (b1.setCell (p := ⟨w.heap.size + 1, 0, none⟩) (by simp) (.int .i64 3)).setCell (p := ⟨w.heap.size + 1, 1, none⟩) (by simp) (.int .i64 (((k : Nat) : Int)))); generalize World.setCell _ _ _ = F at f2 b2 ⊢; clear e1 e2 e3 e4; obtain ⟨e1, e2, -⟩ := blk2 f2; (exact bodyPost_ret (v := .agg #[.int .i64 3, .int .i64 (((k : Nat) : Int))]) (by simp [results, Tryz.results35, go_sem, e1, e2]) rfl ⟨by rw [HLs.out], b2⟩)
          (obtain ⟨m, hm⟩ : ∃ m : Nat, f.ar = (m : Int) := ⟨f.ar.toNat, by omega⟩); (have HAr : Hid (¬ (f.ar < 0 ∨ 3 < f.ar) ∧ f.ar.toNat = m) := ⟨by omega, by omega⟩); obtain ⟨M, hMm⟩ : ∃ M, M = N ^ m := ⟨_, rfl⟩; (have HPw : Hid (∀ w, Calls Tryz.prog 73 #[.int .i64 (N : Nat), .int .i64 f.ar] w fun e w' => e = .returned (.int .i64 (M : Nat)) ∧ w' = w) := fun w => by rw [hm, hMm]; exact pwr_any N m HN8.out.1 (by omega) w); have HMm : Hid (M = N ^ m) := hMm; clear HBd hge hm hMm; go_wp2_with fail
          go_region_held3 (fun w' => w'.cell? ⟨b4, 2, none⟩ = some (.slice sl f.tab.length cq) ∧ w'.cell? ⟨b4, 1, none⟩ = some (.int .i64 f.ar) ∧ w'.cell? ⟨w.heap.size, 0, none⟩ = some (.int .i64 (N : Nat))) (go_keep)
            (first
             | (go_at_call 73
                refine (HPw.out _).mono ?_; rintro e w7 ⟨rfl, h7⟩
                subst h7)
             | fail)
          have HBe : Hid (Below w.heap.size w wr.drew) := HBc.out.drew; have HQe : Hid (wr.drew.heap[w.heap.size + 1]? = some (.cells #[.int .i64 0, .int .i64 0] 30 (0, 0))) := HQc.out; have HSe : Hid (wr.drew.heap[w.heap.size]? = some (.cells #[.int .i64 (N : Nat), .slice (some ⟨g, off, none⟩) s.funs.length cf, .slice ap s.preds.length cp] 62 (0, 0))) := HSv2.out; have HFe : Hid (wr.drew.heap[b4]? = some (.cells #[.string f.nm, .int .i64 f.ar, .slice sl f.tab.length cq] 112 (0, 0))) := HFv2.out; clear a0 a1 a2 k0 k1 k2 hs1 hs3; generalize wr.drew = V2 at HBe HQe HSe HFe ⊢; obtain ⟨a0, a1, a2, -⟩ := blk3 HSe.out; obtain ⟨k0, k1, k2, -⟩ := blk3 HFe.out; have hs1 := lt_of_block HSe.out; have hs3 := lt_of_block HFe.out; by_cases hsz : f.tab.length ≠ M
          · have hszI : ¬ ((f.tab.length : Int) = (M : Int)) := by omega
            (have hszB : ((f.tab.length : Int) != (M : Int)) = true := by simp [hszI])
            have HLs : Hid (lscode N s = (9, (((k : Nat) : Int) : Int))) := by
              refine lsc_fun ?_; rw [← HD.out]; unfold lkF; (rw [if_neg HNs.out, if_neg HAr.out.1, if_pos (by rw [HAr.out.2, ← HMm.out]; exact hsz)])
            go_wp2_with fail; refine (mkF_any 9 (((k : Nat) : Int)) _).mono ?_; rintro _ w6 ⟨rfl, hb6⟩; have f1 := below_keep hb6 HQe.out; have b1 := below_join HBe.out hb6; clear hb6; obtain ⟨e1, e2, e3, e4⟩ := blk2 f1; go_wp2_with fail; have f2 := set2 f1 (.int .i64 9) (.int .i64 (((k : Nat) : Int))); (have b2 := (b1.setCell (p := ⟨w.heap.size + 1, 0, none⟩) (by simp) (.int .i64 9)).setCell (p := ⟨w.heap.size + 1, 1, none⟩) (by simp) (.int .i64 (((k : Nat) : Int)))); generalize World.setCell _ _ _ = F at f2 b2 ⊢; clear e1 e2 e3 e4; obtain ⟨e1, e2, -⟩ := blk2 f2; (exact bodyPost_ret (v := .agg #[.int .i64 9, .int .i64 (((k : Nat) : Int))]) (by simp [results, Tryz.results35, go_sem, e1, e2]) rfl ⟨by rw [HLs.out], b2⟩)
          (have hszE : f.tab.length = M := by omega); (have hszI : (f.tab.length : Int) = (M : Int) := by omega); (have hszB : ((f.tab.length : Int) != (M : Int)) = false := by simp [hszI])
          have HLk : Hid (lkF N (decide (f.nm.data.toList ∈ sfSeen ns k)) f.nm.data.toList f.ar f.tab.length = none) := by
            show _ = _; unfold lkF; (rw [if_neg HNs.out, if_neg HAr.out.1, if_neg (by rw [HAr.out.2, ← HMm.out]; exact hsz)])
          go_wp2_with fail; rw [hszB]; clear a0 a1 a2 k0 k1 k2 hs1 hs3 hszI hszB hszE hsz
          go_loopg [7] f.tab.length (fun gg jj wr2 => ∃ j, j ≤ f.tab.length ∧ gg = f.tab.length - j ∧ jj = .int .i64 (j : Nat) ∧ Hid (∀ i x, i < j → f.tab[i]? = some x → thingB N x = true) ∧ Hid (Below V2.heap.size V2 wr2))
          case atStart => exact ⟨0, by omega, by omega, rfl, fun i x h => by omega, Below.refl _ _⟩
          case round =>
            obtain ⟨j, hjl, hg3, rfl, HTh, HW3⟩ := hrel; have HG3 : Hid (gk = f.tab.length - j) := hg3; have HSy := below_keep HW3.out HSe.out; have HFy := below_keep HW3.out HFe.out; have HBw : Hid (Below w.heap.size w wr) := below_join HBe.out HW3.out; have HQw : Hid (wr.heap[w.heap.size + 1]? = some (.cells #[.int .i64 0, .int .i64 0] 30 (0, 0))) := below_keep HW3.out HQe.out; (have HBy : Hid (∀ n, Below w.heap.size w (wr.drewN n)) := fun n => below_drewN HBw.out n); (have HQy : Hid (∀ n, (wr.drewN n).heap[w.heap.size + 1]? = some (.cells #[.int .i64 0, .int .i64 0] 30 (0, 0))) := fun n => below_keep (below_drewN (Below.refl _ wr) n) HQw.out); obtain ⟨a0, a1, a2, -⟩ := blk3 HSy; obtain ⟨k0, k1, k2, -⟩ := blk3 HFy; have hs1 := lt_of_block HSy; have hs3 := lt_of_block HFy; clear HSy HFy hg3; by_cases hjt : j < f.tab.length
            · obtain ⟨x, hx⟩ : ∃ x, f.tab[j]? = some x := ⟨_, List.getElem?_eq_getElem hjt⟩
              obtain ⟨ad0, cp0, e0, c1, c2, c3⟩ := HIl.out; (obtain ⟨tg, tf, e1, hcx⟩ := c3 (fun e => by rw [e] at hjt; simp at hjt)); simp only [Value.slice.injEq, true_and] at e0; obtain ⟨rfl, rfl⟩ := e0; subst e1; have q0 := hcx j x hx; have v0 := (HBw.out.cell (lt_of_cell q0)).trans q0; (have hjI : (j : Int) < (f.tab.length : Int) := by omega); have HJt : Hid (j < f.tab.length) := hjt; have HXj : Hid (f.tab[j]? = some x) := hx; clear q0 hcx c3 c1 c2 hjt hjl; by_cases hx0 : x < 0
              · have hx0B : decide (x < 0) = true := decide_eq_true hx0
                clear HTh HG3; go_wp2_with fail
                go_quiet (fail)
                have HLs : Hid (lscode N s = (5, (((k : Nat) : Int) : Int))) := by
                  refine lsc_fun ?_; rw [← HD.out]; rw [HLk.out]
                  dsimp only
                  (rw [if_pos (any_bad hx (by unfold thingB; rw [decide_eq_false (by omega)]; rfl))])
                go_wp2_with fail; refine (mkF_any 5 (((k : Nat) : Int)) _).mono ?_; rintro _ w6 ⟨rfl, hb6⟩; have f1 := below_keep hb6 (HQy.out _); have b1 := below_join (HBy.out _) hb6; clear hb6; obtain ⟨e1, e2, e3, e4⟩ := blk2 f1; go_wp2_with fail; have f2 := set2 f1 (.int .i64 5) (.int .i64 (((k : Nat) : Int))); (have b2 := (b1.setCell (p := ⟨w.heap.size + 1, 0, none⟩) (by simp) (.int .i64 5)).setCell (p := ⟨w.heap.size + 1, 1, none⟩) (by simp) (.int .i64 (((k : Nat) : Int)))); generalize World.setCell _ _ _ = F at f2 b2 ⊢; clear e1 e2 e3 e4; obtain ⟨e1, e2, -⟩ := blk2 f2; (exact bodyPost_ret (v := .agg #[.int .i64 5, .int .i64 (((k : Nat) : Int))]) (by simp [results, Tryz.results35, go_sem, e1, e2]) rfl ⟨by rw [HLs.out], b2⟩)
              by_cases hxN : (N : Int) ≤ x
              · have hx0B : decide (x < 0) = false := decide_eq_false hx0
                clear HTh HG3; go_wp2_with fail
                go_quiet (fail)
                have HLs : Hid (lscode N s = (5, (((k : Nat) : Int) : Int))) := by
                  refine lsc_fun ?_; rw [← HD.out]; rw [HLk.out]
                  dsimp only
                  (rw [if_pos (any_bad hx (by unfold thingB; rw [decide_eq_false (p := x < (N : Int)) (by omega), Bool.and_false]))])
                go_wp2_with fail; refine (mkF_any 5 (((k : Nat) : Int)) _).mono ?_; rintro _ w6 ⟨rfl, hb6⟩; have f1 := below_keep hb6 (HQy.out _); have b1 := below_join (HBy.out _) hb6; clear hb6; obtain ⟨e1, e2, e3, e4⟩ := blk2 f1; go_wp2_with fail; have f2 := set2 f1 (.int .i64 5) (.int .i64 (((k : Nat) : Int))); (have b2 := (b1.setCell (p := ⟨w.heap.size + 1, 0, none⟩) (by simp) (.int .i64 5)).setCell (p := ⟨w.heap.size + 1, 1, none⟩) (by simp) (.int .i64 (((k : Nat) : Int)))); generalize World.setCell _ _ _ = F at f2 b2 ⊢; clear e1 e2 e3 e4; obtain ⟨e1, e2, -⟩ := blk2 f2; (exact bodyPost_ret (v := .agg #[.int .i64 5, .int .i64 (((k : Nat) : Int))]) (by simp [results, Tryz.results35, go_sem, e1, e2]) rfl ⟨by rw [HLs.out], b2⟩)
              have hx0B : decide (x < 0) = false := decide_eq_false hx0
              have HTn : Hid (∀ i x, i < j + 1 → f.tab[i]? = some x → thingB N x = true) := fun i z hi hz => by
                by_cases e : i = j
                · subst e
                  rw [HXj.out] at hz
                  cases hz
                  unfold thingB; (rw [decide_eq_true (by omega), decide_eq_true (by omega)]; rfl)
                · exact HTh.out i z (by omega) hz
              clear hx HTh; go_wp2_with fail
              go_quiet (fail)
              go_wp2_with fail
              go_roundg (f.tab.length - (j + 1))
              case measure => have := HG3.out; have := HJt.out; omega
              case rel => exact ⟨j + 1, HJt.out, rfl, by go_num, HTn, below_drewN HW3.out _⟩
            · obtain rfl : j = f.tab.length := by omega
              (have hge : ¬ ((f.tab.length : Nat) : Int) < ((f.tab.length : Nat) : Int) := by omega)
              have HEn : Hid (cfF N (k + 1) (sfSeen (s.funs.map (·.nm.data.toList)) (k + 1)) (s.funs.drop (k + 1)) = cfF N 0 [] s.funs) := by
                have h9 := HD.out; rw [HLk.out] at h9
                dsimp only at h9
                (rw [if_neg (by rw [any_good fun i x hi hx => HTh.out i x hi hx]; simp), ← HSeen.out, HNS.out] at h9); exact h9
              have HSn : Hid (wr.heap[w.heap.size]? = some (.cells #[.int .i64 (N : Nat), .slice (some ⟨g, off, none⟩) s.funs.length cf, .slice ap s.preds.length cp] 62 (0, 0))) := below_keep HW3.out HSe.out; clear hjt hjl HG3; go_wp2_with fail
              go_roundg (s.funs.length - (k + 1))
              case measure => have := HG.out; have := HLt.out; omega
              case rel => exact ⟨k + 1, HLt.out, rfl, by go_num, HEn, HBw, HSn, HQw⟩
    · obtain rfl : i = s.funs.length := by omega
      (have hge : ¬ (s.funs.length : Int) < (s.funs.length : Int) := by omega)
      have HCN : Hid (cfF N 0 [] s.funs = none) := by
        have h9 := HE.out; rw [List.drop_length] at h9; show _ = _; rw [← h9]; rfl
      have HE1 : Hid (pfF N (s.funs.length + 0) (sfSeen (s.preds.map (·.nm.data.toList)) 0) (s.preds.drop 0) = pfF N s.funs.length [] s.preds) := rfl; clear hlt hile HE HF HG; go_wp2_with fail; clear a0 a1 a2 hs1
      go_loopg [8] s.preds.length (fun g c wr => ∃ i, i ≤ s.preds.length ∧ g = s.preds.length - i ∧ c = .int .i64 (i : Nat) ∧ Hid (pfF N (s.funs.length + i) (sfSeen (s.preds.map (·.nm.data.toList)) i) (s.preds.drop i) = pfF N s.funs.length [] s.preds) ∧ Hid (Below w.heap.size w wr) ∧ Hid (wr.heap[w.heap.size]? = some (.cells #[.int .i64 (N : Nat), .slice af s.funs.length cf, .slice ap s.preds.length cp] 62 (0, 0))) ∧ Hid (wr.heap[w.heap.size + 1]? = some (.cells #[.int .i64 0, .int .i64 0] 30 (0, 0))))
      case atStart => exact ⟨0, by omega, by omega, rfl, HE1, HB, HSb, HQ⟩
      case round =>
        clear HB HSb HQ HE1; obtain ⟨i, hile, hg, rfl, HE, HB, HSb, HQ⟩ := hrel; have HG : Hid (gk = s.preds.length - i) := hg; clear hg; obtain ⟨a0, a1, a2, -⟩ := blk3 HSb.out; have hs1 := lt_of_block HSb.out; by_cases hlt : i < s.preds.length
        · obtain ⟨f, hfi⟩ : ∃ x, s.preds[i]? = some x := ⟨_, List.getElem?_eq_getElem hlt⟩
          (obtain ⟨g, off, rfl, hc⟩ := HP.out (fun e => by rw [e] at hlt; simp at hlt)); obtain ⟨sl, cq, z0, z1, z2, hfr⟩ := hc i f hfi; have y0 := (HB.out.cell (lt_of_cell z0)).trans z0; have y1 := (HB.out.cell (lt_of_cell z1)).trans z1; have y2 := (HB.out.cell (lt_of_cell z2)).trans z2; (have hltI : (i : Int) < (s.preds.length : Int) := by omega); have hd := HE.out; rw [pfF_drop hfi] at hd; have HD : Hid _ := hd; obtain ⟨sl', cq', e, hnm, hil⟩ := hfr; simp only [Value.agg.injEq, Array.mk.injEq, List.cons.injEq, Value.slice.injEq, and_true, true_and] at e; obtain ⟨rfl, rfl⟩ := e
          have htl : ((f.bits.length : Nat) : Int) ≤ 9223372036854775807 := by
            obtain ⟨_, _, _, h1, h2, _⟩ := hil; unfold maxLen at h2; omega
          have HIl : Hid (BL w (.slice sl f.bits.length cq) f.bits) := hil; have HNm : Hid (f.nm.size ≤ maxLen) := hnm
          have HNk : Hid (∀ k, k < s.preds.length → ∃ fk : PdD, (s.preds.map (·.nm.data.toList))[k]? = some fk.nm.data.toList ∧ w.cell? ⟨g, off + k * 3, none⟩ = some (.string fk.nm)) := fun k hk => by
            obtain ⟨fk, hfk⟩ : ∃ x, s.preds[k]? = some x := ⟨_, List.getElem?_eq_getElem hk⟩; obtain ⟨_, _, u0, -⟩ := hc k fk hfk; (exact ⟨fk, by rw [List.getElem?_map, hfk]; rfl, u0⟩)
          (have HSeen : Hid (sfSeen (s.preds.map (·.nm.data.toList)) (i + 1) = f.nm.data.toList :: sfSeen (s.preds.map (·.nm.data.toList)) i) := sfSeen_next (by rw [List.getElem?_map, hfi]; rfl)); have HLt : Hid (i < s.preds.length) := hlt; obtain ⟨V, hV⟩ : ∃ V, wr.alloc (.cells #[.string f.nm, .int .i64 f.ar, .slice sl f.bits.length cq] 116 (0, 0)) = V := ⟨_, rfl⟩; (have HBV : Hid (Below wr.heap.size wr V) := by rw [← hV]; exact below_more (Below.refl _ _) _); have HBv : Hid (Below w.heap.size w V) := below_join HB.out HBV.out; have HSv : Hid (V.heap[w.heap.size]? = some (.cells #[.int .i64 (N : Nat), .slice af s.funs.length cf, .slice (some ⟨g, off, none⟩) s.preds.length cp] 62 (0, 0))) := below_keep HBV.out HSb.out; have HQv : Hid (V.heap[w.heap.size + 1]? = some (.cells #[.int .i64 0, .int .i64 0] 30 (0, 0))) := below_keep HBV.out HQ.out; (have HFv : Hid (V.heap[wr.heap.size]? = some (.cells #[.string f.nm, .int .i64 f.ar, .slice sl f.bits.length cq] 116 (0, 0))) := by rw [← hV]; exact blk_new _ _); obtain ⟨k0, k1, k2, -⟩ := blk3 HFv.out; obtain ⟨s0, s1, s2, -⟩ := blk3 HSv.out; have hs3 := lt_of_block HFv.out; clear hfi hc z0 z1 z2 hlt hile hnm hil hd; go_wp2_with fail; refine (refBig_any f.nm HNm.out _).mono ?_; rintro _ w5 ⟨rfl, h5⟩; obtain rfl : V = w5 := h5.symm; clear h5 y0 y1 y2 a0 a1 a2 k0 k1 k2 s0 s1 s2; go_wp2_with fail; obtain ⟨ns, hns⟩ : ∃ ns, ns = (s.preds.map (·.nm.data.toList)) := ⟨_, rfl⟩; rw [← hns] at HNk HSeen HD; have HNS : Hid (ns = (s.preds.map (·.nm.data.toList))) := hns; clear hns; have HB0 : Hid (sfBad ns 0 f.nm.data.toList = !isBg f.nm.data.toList) := sfBad_zero _ _; generalize (!isBg f.nm.data.toList) = b0 at HB0 ⊢; have HB4 : Hid (w.heap.size ≤ wr.heap.size) := HB.out.size; generalize wr.heap.size = b4 at HFv HB4 ⊢
          go_loopg [12, 11] i (fun gg kk bd wr2 => ∃ k bb, k ≤ i ∧ gg = i - k ∧ kk = .int .i64 (k : Nat) ∧ bd = .bool bb ∧ Hid (sfBad ns k f.nm.data.toList = bb) ∧ Hid (Below V.heap.size V wr2))
          case atStart => exact ⟨0, _, by omega, by omega, rfl, rfl, HB0, Below.refl _ _⟩
          case round =>
            obtain ⟨k, bb, hkl, hg2, rfl, rfl, HBd, HW2⟩ := hrel; have HSv2 : Hid (wr.heap[w.heap.size]? = some (.cells #[.int .i64 (N : Nat), .slice af s.funs.length cf, .slice (some ⟨g, off, none⟩) s.preds.length cp] 62 (0, 0))) := below_keep HW2.out HSv.out; have HFv2 : Hid (wr.heap[b4]? = some (.cells #[.string f.nm, .int .i64 f.ar, .slice sl f.bits.length cq] 116 (0, 0))) := below_keep HW2.out HFv.out; have HG2 : Hid (gk = i - k) := hg2; clear hg2 HB0; obtain ⟨a0, a1, a2, -⟩ := blk3 HSv2.out; obtain ⟨k0, k1, k2, -⟩ := blk3 HFv2.out; have hs1 := lt_of_block HSv2.out; have hs3 := lt_of_block HFv2.out; by_cases hki : k < i
            · have hkI : (k : Int) < (i : Int) := by omega
              (have hkF : (k : Int) < (s.preds.length : Int) := by omega); (obtain ⟨fk, hfk, zk⟩ := HNk.out k (by have := HLt.out; omega)); (have HNx : Hid (sfBad ns (k + 1) f.nm.data.toList = (bb || (fk.nm.toList == f.nm.toList))) := by show _ = _; rw [sfBad_next hfk, HBd.out, ByteArray.toList_eq, ByteArray.toList_eq]); have yk := ((below_join HBv.out HW2.out).cell (lt_of_cell zk)).trans zk; have HKi : Hid (k < i) := hki; clear hfk zk hki hkl
              cases bb
              · go_wp2_with fail
                go_quiet (fail)
                go_wp2_with fail
                go_roundg (i - (k + 1))
                case measure => have := HG2.out; have := HKi.out; omega
                case rel => exact ⟨k + 1, _, HKi.out, rfl, by go_num, rfl, HNx.out, below_drewN HW2.out _⟩
              · go_wp2_with fail
                go_quiet (fail)
                go_wp2_with fail
                go_roundg (i - (k + 1))
                case measure => have := HG2.out; have := HKi.out; omega
                case rel => exact ⟨k + 1, _, HKi.out, rfl, by go_num, rfl, HNx.out, below_drewN HW2.out _⟩
            · obtain rfl : k = i := by omega
              (have hge : ¬ (k : Int) < (k : Int) := by omega); have HBc : Hid (Below w.heap.size w wr) := below_join HBv.out HW2.out; have HQc : Hid (wr.heap[w.heap.size + 1]? = some (.cells #[.int .i64 0, .int .i64 0] 30 (0, 0))) := below_keep HW2.out HQv.out; clear hki hkl HNk
              cases bb
              case true =>
                have HLs : Hid (lscode N s = (8, (((s.funs.length : Int) + (k : Int) : Int) : Int))) := by
                  refine lsc_pred HCN.out ?_; rw [← HD.out]; have := (sfBad_seen ns k f.nm.data.toList).1 HBd.out; unfold lkF; rw [if_pos this]
                go_wp2_with fail; refine (mkF_any 8 (((s.funs.length : Int) + (k : Int) : Int)) _).mono ?_; rintro _ w6 ⟨rfl, hb6⟩; have f1 := below_keep hb6 HQc.out; have b1 := below_join HBc.out hb6; clear hb6; obtain ⟨e1, e2, e3, e4⟩ := blk2 f1; go_wp2_with fail; have f2 := set2 f1 (.int .i64 8) (.int .i64 (((s.funs.length : Int) + (k : Int) : Int))); (have b2 := (b1.setCell (p := ⟨w.heap.size + 1, 0, none⟩) (by simp) (.int .i64 8)).setCell (p := ⟨w.heap.size + 1, 1, none⟩) (by simp) (.int .i64 (((s.funs.length : Int) + (k : Int) : Int)))); generalize World.setCell _ _ _ = F at f2 b2 ⊢; clear e1 e2 e3 e4; obtain ⟨e1, e2, -⟩ := blk2 f2; (exact bodyPost_ret (v := .agg #[.int .i64 8, .int .i64 (((s.funs.length : Int) + (k : Int) : Int))]) (by simp [results, Tryz.results35, go_sem, e1, e2]) rfl ⟨by rw [HLs.out], b2⟩)
              have hns : ¬ (decide (f.nm.data.toList ∈ sfSeen ns k) = true ∨ isBg f.nm.data.toList = false) := fun h => by
                have := (sfBad_seen ns k f.nm.data.toList).2 h; rw [HBd.out] at this
                cases this
              have HNs : Hid (¬ (decide (f.nm.data.toList ∈ sfSeen ns k) = true ∨ isBg f.nm.data.toList = false)) := hns; clear hns; by_cases ha0 : f.ar < 0
              · have HLs : Hid (lscode N s = (3, (((s.funs.length : Int) + (k : Int) : Int) : Int))) := by
                  refine lsc_pred HCN.out ?_; rw [← HD.out]; unfold lkF; rw [if_neg HNs.out, if_pos (Or.inl ha0)]
                go_wp2_with fail; refine (mkF_any 3 (((s.funs.length : Int) + (k : Int) : Int)) _).mono ?_; rintro _ w6 ⟨rfl, hb6⟩; have f1 := below_keep hb6 HQc.out; have b1 := below_join HBc.out hb6; clear hb6; obtain ⟨e1, e2, e3, e4⟩ := blk2 f1; go_wp2_with fail; have f2 := set2 f1 (.int .i64 3) (.int .i64 (((s.funs.length : Int) + (k : Int) : Int))); (have b2 := (b1.setCell (p := ⟨w.heap.size + 1, 0, none⟩) (by simp) (.int .i64 3)).setCell (p := ⟨w.heap.size + 1, 1, none⟩) (by simp) (.int .i64 (((s.funs.length : Int) + (k : Int) : Int)))); generalize World.setCell _ _ _ = F at f2 b2 ⊢; clear e1 e2 e3 e4; obtain ⟨e1, e2, -⟩ := blk2 f2; (exact bodyPost_ret (v := .agg #[.int .i64 3, .int .i64 (((s.funs.length : Int) + (k : Int) : Int))]) (by simp [results, Tryz.results35, go_sem, e1, e2]) rfl ⟨by rw [HLs.out], b2⟩)
              by_cases ha3 : 3 < f.ar
              · have HLs : Hid (lscode N s = (3, (((s.funs.length : Int) + (k : Int) : Int) : Int))) := by
                  refine lsc_pred HCN.out ?_; rw [← HD.out]; unfold lkF; rw [if_neg HNs.out, if_pos (Or.inr ha3)]
                go_wp2_with fail; refine (mkF_any 3 (((s.funs.length : Int) + (k : Int) : Int)) _).mono ?_; rintro _ w6 ⟨rfl, hb6⟩; have f1 := below_keep hb6 HQc.out; have b1 := below_join HBc.out hb6; clear hb6; obtain ⟨e1, e2, e3, e4⟩ := blk2 f1; go_wp2_with fail; have f2 := set2 f1 (.int .i64 3) (.int .i64 (((s.funs.length : Int) + (k : Int) : Int))); (have b2 := (b1.setCell (p := ⟨w.heap.size + 1, 0, none⟩) (by simp) (.int .i64 3)).setCell (p := ⟨w.heap.size + 1, 1, none⟩) (by simp) (.int .i64 (((s.funs.length : Int) + (k : Int) : Int)))); generalize World.setCell _ _ _ = F at f2 b2 ⊢; clear e1 e2 e3 e4; obtain ⟨e1, e2, -⟩ := blk2 f2; (exact bodyPost_ret (v := .agg #[.int .i64 3, .int .i64 (((s.funs.length : Int) + (k : Int) : Int))]) (by simp [results, Tryz.results35, go_sem, e1, e2]) rfl ⟨by rw [HLs.out], b2⟩)
              (obtain ⟨m, hm⟩ : ∃ m : Nat, f.ar = (m : Int) := ⟨f.ar.toNat, by omega⟩); (have HAr : Hid (¬ (f.ar < 0 ∨ 3 < f.ar) ∧ f.ar.toNat = m) := ⟨by omega, by omega⟩); obtain ⟨M, hMm⟩ : ∃ M, M = N ^ m := ⟨_, rfl⟩; (have HPw : Hid (∀ w, Calls Tryz.prog 73 #[.int .i64 (N : Nat), .int .i64 f.ar] w fun e w' => e = .returned (.int .i64 (M : Nat)) ∧ w' = w) := fun w => by rw [hm, hMm]; exact pwr_any N m HN8.out.1 (by omega) w); have HMm : Hid (M = N ^ m) := hMm; clear HBd hge hm hMm; go_wp2_with fail
              go_region_held3 (fun w' => w'.cell? ⟨b4, 2, none⟩ = some (.slice sl f.bits.length cq) ∧ w'.cell? ⟨b4, 1, none⟩ = some (.int .i64 f.ar) ∧ w'.cell? ⟨w.heap.size, 0, none⟩ = some (.int .i64 (N : Nat))) (go_keep)
                (first
                 | (go_at_call 73
                    refine (HPw.out _).mono ?_; rintro e w7 ⟨rfl, h7⟩
                    subst h7)
                 | fail)
              have HBe : Hid (Below w.heap.size w wr.drew) := HBc.out.drew; have HQe : Hid (wr.drew.heap[w.heap.size + 1]? = some (.cells #[.int .i64 0, .int .i64 0] 30 (0, 0))) := HQc.out; have HSe : Hid (wr.drew.heap[w.heap.size]? = some (.cells #[.int .i64 (N : Nat), .slice af s.funs.length cf, .slice (some ⟨g, off, none⟩) s.preds.length cp] 62 (0, 0))) := HSv2.out; have HFe : Hid (wr.drew.heap[b4]? = some (.cells #[.string f.nm, .int .i64 f.ar, .slice sl f.bits.length cq] 116 (0, 0))) := HFv2.out; clear a0 a1 a2 k0 k1 k2 hs1 hs3; generalize wr.drew = V2 at HBe HQe HSe HFe ⊢; obtain ⟨a0, a1, a2, -⟩ := blk3 HSe.out; obtain ⟨k0, k1, k2, -⟩ := blk3 HFe.out; have hs1 := lt_of_block HSe.out; have hs3 := lt_of_block HFe.out; by_cases hsz : f.bits.length ≠ M
              · have hszI : ¬ ((f.bits.length : Int) = (M : Int)) := by omega
                (have hszB : ((f.bits.length : Int) != (M : Int)) = true := by simp [hszI])
                have HLs : Hid (lscode N s = (9, (((s.funs.length : Int) + (k : Int) : Int) : Int))) := by
                  refine lsc_pred HCN.out ?_; rw [← HD.out]; unfold lkF; (rw [if_neg HNs.out, if_neg HAr.out.1, if_pos (by rw [HAr.out.2, ← HMm.out]; exact hsz)])
                go_wp2_with fail; refine (mkF_any 9 (((s.funs.length : Int) + (k : Int) : Int)) _).mono ?_; rintro _ w6 ⟨rfl, hb6⟩; have f1 := below_keep hb6 HQe.out; have b1 := below_join HBe.out hb6; clear hb6; obtain ⟨e1, e2, e3, e4⟩ := blk2 f1; go_wp2_with fail; have f2 := set2 f1 (.int .i64 9) (.int .i64 (((s.funs.length : Int) + (k : Int) : Int))); (have b2 := (b1.setCell (p := ⟨w.heap.size + 1, 0, none⟩) (by simp) (.int .i64 9)).setCell (p := ⟨w.heap.size + 1, 1, none⟩) (by simp) (.int .i64 (((s.funs.length : Int) + (k : Int) : Int)))); generalize World.setCell _ _ _ = F at f2 b2 ⊢; clear e1 e2 e3 e4; obtain ⟨e1, e2, -⟩ := blk2 f2; (exact bodyPost_ret (v := .agg #[.int .i64 9, .int .i64 (((s.funs.length : Int) + (k : Int) : Int))]) (by simp [results, Tryz.results35, go_sem, e1, e2]) rfl ⟨by rw [HLs.out], b2⟩)
              (have hszI : (f.bits.length : Int) = (M : Int) := by omega); (have hszB : ((f.bits.length : Int) != (M : Int)) = false := by simp [hszI])
              have HLk : Hid (lkF N (decide (f.nm.data.toList ∈ sfSeen ns k)) f.nm.data.toList f.ar f.bits.length = none) := by
                show _ = _; unfold lkF; (rw [if_neg HNs.out, if_neg HAr.out.1, if_neg (by rw [HAr.out.2, ← HMm.out]; exact hsz)])
              have HEn : Hid (pfF N (s.funs.length + (k + 1)) (sfSeen (s.preds.map (·.nm.data.toList)) (k + 1)) (s.preds.drop (k + 1)) = pfF N s.funs.length [] s.preds) := by
                have h9 := HD.out; rw [HLk.out] at h9
                dsimp only at h9
                rw [← HSeen.out, HNS.out] at h9; exact h9
              go_wp2_with fail
              go_roundg (s.preds.length - (k + 1))
              case measure => have := HG.out; have := HLt.out; omega
              case rel => exact ⟨k + 1, HLt.out, rfl, by go_num, HEn, HBe, HSe, HQe⟩
        · obtain rfl : i = s.preds.length := by omega
          (have hge : ¬ (s.preds.length : Int) < (s.preds.length : Int) := by omega)
          have HLs : Hid (lscode N s = (0, 0)) := by
            refine lsc_none HCN.out ?_; have h9 := HE.out; rw [List.drop_length] at h9; rw [← h9]; rfl
          clear hlt hile; have f1 := HQ.out; obtain ⟨e1, e2, e3, e4⟩ := blk2 f1; have hs2 := lt_of_block f1; go_wp2_with fail; have f2 := set2 f1 (.int .i64 0) (.int .i64 0); (have b2 := (HB.out.setCell (p := ⟨w.heap.size + 1, 0, none⟩) (by simp) (.int .i64 0)).setCell (p := ⟨w.heap.size + 1, 1, none⟩) (by simp) (.int .i64 0)); generalize World.setCell _ _ _ = F at f2 b2 ⊢; clear e1 e2 e3 e4 f1; obtain ⟨e1, e2, -⟩ := blk2 f2; (exact bodyPost_ret (v := .agg #[.int .i64 0, .int .i64 0]) (by simp [results, Tryz.results35, go_sem, e1, e2]) rfl ⟨by rw [HLs.out], b2⟩)
end Go.Proofs.YtpiaeapgjljjhaaGreat
