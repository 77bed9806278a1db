/- Texts of one proof, one behind the other: SR1, SR2, SR3. -/
import Derived.Test.YtblodnpfckflaakB32
import Derived.Test.YtblodnpfckflaakB09
import Derived.Test.YtblodnpfckflaakB16
import Derived.Test.YtblodnpfckflaakB11
import Derived.Test.YtblodnpfckflaakB12
import Derived.Test.YtblodnpfckflaakB04
import Derived.Test.YtblodnpfckflaakB01
import Derived.Test.YtblodnpfckflaakB10
import Derived.RegionTactic
import Derived.Laws.EntriesVeiled
/- Walks: powerOf and StructureFault of the yardstick: they answer something. -/
namespace Go.Proofs.Ytblodnpfckflaak
open Go.RowKit Go.Sort

set_option maxRecDepth 10000 in
set_option maxHeartbeats 4000000 in
theorem pwr_any (n k : Nat) (hn : n ≤ 8) (hk : k ≤ 3) (w : World) : Calls Try.prog 28 #[.int .i64 (n : Nat), .int .i64 (k : Nat)] w fun e w' => e = .returned (.int .i64 ((n ^ k : Nat) : Int)) ∧ w' = w := by
  have HK : Hid (n ≤ 8 ∧ k ≤ 3) := ⟨hn, hk⟩; (have hkI : ((k : Nat) : Int) ≤ 3 := by omega); clear hn hk
  go_enter Try.func28, Try.ntmps28
  go_wp2_with fail
  go_loopg [6, 5] k (fun gg i p wr => ∃ j q : Nat, j ≤ k ∧ gg = k - j ∧ i = .int .i64 (j : Nat) ∧ p = .int .i64 (q : Nat) ∧ Hid (q = n ^ j) ∧ Hid (wr = w))
  case atStart => exact ⟨0, 1, by omega, by omega, rfl, rfl, (by show 1 = _; simp), rfl⟩
  case round =>
    obtain ⟨j, q, hj, hg, rfl, rfl, HQ, HW⟩ := hrel; have hw := HW.out; subst hw; have HG : Hid (gk = k - j) := hg
    have hq8 : q ≤ 512 := by
      (have h1 : n ^ j ≤ 8 ^ 3 := Nat.le_trans (Nat.pow_le_pow_left HK.out.1 j) (Nat.pow_le_pow_right (by omega) (by have := HK.out.2; omega))); have := HQ.out; omega
    have hn8 := HK.out.1; (have hqI : (q : Int) ≤ 512 := by omega); (have hnI : (n : Int) ≤ 8 := by omega)
    have hm : ((q * n : Nat) : Int) ≤ 4096 := by
      have : q * n ≤ 512 * 8 := Nat.mul_le_mul hq8 hn8; omega
    (have hm2 : ((q * n : Nat) : Int) = (q : Int) * (n : Int) := by simp); rw [hm2] at hm; (have h0 : 0 ≤ (q : Int) * (n : Int) := by rw [← hm2]; omega); have HMu : Hid (((q * n : Nat) : Int) = (q : Int) * (n : Int)) := hm2; clear hg hq8 hn8 hm2; by_cases hlt : j < k
    · have hltI : (j : Int) < (k : Int) := by omega
      have HLt : Hid (j < k) := hlt; clear hlt hj; go_wp2_with fail
      go_roundg (k - (j + 1))
      case measure => have := HG.out; have := HLt.out; omega
      case rel => exact ⟨j + 1, q * n, HLt.out, rfl, by go_num, (by rw [HMu.out]), (by show _ = _; rw [HQ.out, Nat.pow_succ]), rfl⟩
    · have hge : ¬ (j : Int) < (k : Int) := by omega
      (have HE : Hid (j = k) := by show _ = _; omega); clear hlt hj; go_wp2_with fail; go_ret; refine ⟨?_, rfl⟩; rw [HQ.out, HE.out]
      simp
end Go.Proofs.Ytblodnpfckflaak
/- Walks: IsBig of the yardstick. -/
namespace Go.Proofs.Ytblodnpfckflaak
open Go.RowKit

def bgT (k : Nat) (l : List UInt8) : Bool := if k = 0 then (match l with | [] => true | c :: l => capB c && l.all lettB) else l.all lettB
theorem bgT_all (l : List UInt8) : isBg l = (bgT 0 l && decide (0 < l.length) && decide (l.length < 9)) := by
  cases l with
  | nil => rfl
  | cons c l =>
    simp only [isBg, bgT, if_pos, List.length_cons, List.all_cons]; by_cases hc : capB c = true
    · have hl : lettB c = true := by unfold lettB capB at *; simp at *; omega
      (have e : decide (l.length + 1 ≤ 8) = decide (l.length + 1 < 9) := decide_eq_decide.2 (by omega)); rw [e, hc, hl]; simp [Bool.and_comm]
    · simp [hc]
theorem bgT_cap {c : UInt8} {l : List UInt8} {k : Nat} (hc : capB c = true) : bgT k (c :: l) = bgT (k + 1) l := by
  (have hl : lettB c = true := by unfold lettB capB at *; simp at *; omega); unfold bgT; (rw [if_neg (show ¬ k + 1 = 0 by omega)])
  split
  · simp [hc]
  · simp [hl]
theorem bgT_low {c : UInt8} {l : List UInt8} {k : Nat} (hk : k ≠ 0) (hc : lettB c = true) : bgT k (c :: l) = bgT (k + 1) l := by
  unfold bgT; (rw [if_neg (show ¬ k + 1 = 0 by omega), if_neg hk]); simp [hc]
theorem bgT_first {c : UInt8} {l : List UInt8} (hc : capB c = false) : bgT 0 (c :: l) = false := by
  unfold bgT; simp [hc]
theorem bgT_no {c : UInt8} {l : List UInt8} {k : Nat} (hc : capB c = false) (hl : lettB c = false) : bgT k (c :: l) = false := by
  unfold bgT
  split
  · simp [hc]
  · simp [hl]
set_option maxHeartbeats 2000000 in
theorem refBig_any (s : ByteArray) (hs : s.size ≤ maxLen) (w : World) :
    Calls Try.prog 27 #[.string s] w fun e w' => e = .returned (.bool (isBg s.data.toList)) ∧ w' = w := by
  have hsz : s.data.toList.length = s.size := Array.length_toList; unfold maxLen at hs; have HN : Hid (isBg s.data.toList = (bgT 0 s.data.toList && decide (0 < s.data.toList.length) && decide (s.data.toList.length < 9))) := bgT_all _; have HZ : Hid (s.data.toList.length = s.size) := hsz; clear hsz
  go_enter Try.func27, Try.ntmps27
  go_wp2
  go_loop [3] (fun v => ∃ k l, At s k l ∧ v = .int .i64 (k : Nat) ∧ bgT 0 s.data.toList = bgT k l) (fun v => s.size - (intOf v).toNat)
  case atStart => exact ⟨0, s.data.toList, ⟨Nat.zero_le _, by simp⟩, rfl, rfl⟩
  case round =>
    obtain ⟨k, l, ha, rfl, hl⟩ := hrel; have hlen := ha.len; have HL : Hid (At s k l ∧ bgT 0 s.data.toList = bgT k l) := ⟨ha, hl⟩; clear ha hl
    cases l with
    | nil =>
      simp at hlen; (have hd : decide ((k : Int) < (s.size : Int)) = false := by simp; omega); go_wp2
      all_goals
        go_ret; refine ⟨ret_bool ?_, rfl⟩; rw [HN.out, HL.out.2, HZ.out]; (have e : bgT k [] = true := by unfold bgT; split <;> rfl); rw [e, Bool.eq_iff_iff]; simp only [Bool.true_and, Bool.and_eq_true, decide_eq_true_eq, Bool.false_eq_true, false_iff]
        omega
    | cons c l =>
      simp at hlen; (have hlt' : k < s.size := by omega); (have hlt : (k : Int) < (s.size : Int) := by omega); have hhd : s[k] = c := HL.out.1.head hlt'; by_cases hc : capB c = true
      · have hx : (65 : Int) ≤ (s[k].toNat : Int) := by rw [hhd]; simp [capB] at hc; omega
        (have hy : (s[k].toNat : Int) ≤ 90 := by rw [hhd]; simp [capB] at hc; omega); (have hz : ¬ (97 : Int) ≤ (s[k].toNat : Int) := by omega); (have HMo : Hid (At s (k + 1) l ∧ bgT 0 s.data.toList = bgT (k + 1) l) := ⟨HL.out.1.cons, by rw [HL.out.2, bgT_cap hc]⟩); clear hhd hc; go_wp2
        go_round
        case rel => exact ⟨k + 1, l, HMo.out.1, by go_num, HMo.out.2⟩
        case measure => simp [intOf]; omega
      · have hcf : capB c = false := by simpa using hc
        (have hx : ¬ ((65 : Int) ≤ (s[k].toNat : Int) ∧ (s[k].toNat : Int) ≤ 90) := by rw [hhd]; simp [capB] at hcf; omega); (have hcn : (c.toNat : Int) = (s[k].toNat : Int) := by rw [hhd]); by_cases a1 : (65 : Int) ≤ (s[k].toNat : Int)
        · have a9 : (90 : Int) < (s[k].toNat : Int) := by omega
          (have d1 : decide ((s[k].toNat : Int) ≤ 90) = false := by rw [decide_eq_false_iff_not]; omega); by_cases a2 : (97 : Int) ≤ (s[k].toNat : Int)
          · by_cases a3 : (s[k].toNat : Int) ≤ 122
            · have hl : lettB c = true := by simp [capB, lettB] at hcf ⊢; omega
              by_cases hk : k = 0
              · have HF : Hid (bgT 0 s.data.toList = false) := by show _ = _; rw [HL.out.2, hk, bgT_first hcf]
                (have hk0 : ((k : Int) == 0) = true := by rw [hk]; rfl); clear hhd hc hcf hl hk hx hcn a9; go_wp2
                all_goals
                  go_ret; refine ⟨ret_bool ?_, rfl⟩; rw [HN.out, HF.out]
                  simp
              · have HMo : Hid (At s (k + 1) l ∧ bgT 0 s.data.toList = bgT (k + 1) l) := ⟨HL.out.1.cons, by rw [HL.out.2, bgT_low hk hl]⟩
                (have hk0 : ((k : Int) == 0) = false := by simpa using hk); clear hhd hc hcf hl hk hx hcn a9; go_wp2
                go_round
                case rel => exact ⟨k + 1, l, HMo.out.1, by go_num, HMo.out.2⟩
                case measure => simp [intOf]; omega
            · have d3 : decide ((s[k].toNat : Int) ≤ 122) = false := by rw [decide_eq_false_iff_not]; omega
              (have HF : Hid (bgT 0 s.data.toList = false) := by show _ = _; rw [HL.out.2, bgT_no hcf (by simp [capB, lettB] at hcf ⊢; omega)]); clear hcn hhd hc hcf hx; go_wp2
              all_goals
                go_ret; refine ⟨ret_bool ?_, rfl⟩; rw [HN.out, HF.out]
                simp
          · have HF : Hid (bgT 0 s.data.toList = false) := by show _ = _; rw [HL.out.2, bgT_no hcf (by simp [capB, lettB] at hcf ⊢; omega)]
            clear hcn hhd hc hcf hx; go_wp2
            all_goals
              go_ret; refine ⟨ret_bool ?_, rfl⟩; rw [HN.out, HF.out]
              simp
        · have a2 : ¬ (97 : Int) ≤ (s[k].toNat : Int) := by omega
          (have HF : Hid (bgT 0 s.data.toList = false) := by show _ = _; rw [HL.out.2, bgT_no hcf (by simp [capB, lettB] at hcf ⊢; omega)]); clear hcn hhd hc hcf hx; go_wp2
          all_goals
            go_ret; refine ⟨ret_bool ?_, rfl⟩; rw [HN.out, HF.out]
            simp
end Go.Proofs.Ytblodnpfckflaak
/- Walks: StructureFault of the yardstick, where there is too much of something. (gen/sr3.py) -/
namespace Go.Proofs.Ytblodnpfckflaak
open Go.RowKit

set_option maxRecDepth 10000 in
set_option maxHeartbeats 8000000 in
theorem sfMany_any (s : StD) (v : Value) (w : World) (hS : StR w s v) (hok : ¬ (1 ≤ s.n ∧ s.n ≤ 8 ∧ s.funs.length ≤ 10 ∧ s.preds.length ≤ 10)) :
    Calls Try.prog 12 #[v] w fun e w' => e = .returned (.agg #[.int .i64 2, .int .i64 0]) ∧ Below w.heap.size w w' := by
  obtain ⟨af, cf, ap, cp, rfl, hF, hP⟩ := hS; obtain ⟨W, hWe⟩ : ∃ W, (w.alloc (.cells #[.int .i64 s.n, .slice af s.funs.length cf, .slice ap s.preds.length cp] 25 (0, 0))).alloc (.cells #[.int .i64 0, .int .i64 0] 39 (0, 0)) = W := ⟨_, rfl⟩; (have hBW : Below w.heap.size w W := by rw [← hWe]; exact below_more (below_more (Below.refl _ _) _) _); (have hq0 : W.heap[w.heap.size]? = some (.cells #[.int .i64 s.n, .slice af s.funs.length cf, .slice ap s.preds.length cp] 25 (0, 0)) := by rw [← hWe]; exact alloc_keep (blk_new _ _) _)
  have hq1 : W.heap[w.heap.size + 1]? = some (.cells #[.int .i64 0, .int .i64 0] 39 (0, 0)) := by
    have := blk_new (w.alloc (.cells #[.int .i64 s.n, .slice af s.funs.length cf, .slice ap s.preds.length cp] 25 (0, 0))) (.cells #[.int .i64 0, .int .i64 0] 39 (0, 0)); rw [← hWe]; simpa using this
  have HBW : Hid (Below w.heap.size w W) := hBW; have HQ1 : Hid (W.heap[w.heap.size + 1]? = some (.cells #[.int .i64 0, .int .i64 0] 39 (0, 0))) := hq1; (have hfm : s.funs.length ≤ maxLen := by obtain ⟨_, _, e, h1, h2, _⟩ := hF; omega); (have hpm : s.preds.length ≤ maxLen := by obtain ⟨_, _, e, h1, h2, _⟩ := hP; omega); (have hfI : ((s.funs.length : Nat) : Int) ≤ 9223372036854775807 := by unfold maxLen at hfm; omega); (have hpI : ((s.preds.length : Nat) : Int) ≤ 9223372036854775807 := by unfold maxLen at hpm; omega); obtain ⟨a0, a1, a2, -⟩ := blk3 hq0; obtain ⟨k1, k2, k3, k4⟩ := blk2 hq1; have hs1 := lt_of_block hq0; have hs2 := lt_of_block hq1; clear hfm hpm hF hP hBW hq0 hq1; by_cases h1 : s.n < 1
  · clear hok
    go_enter Try.func12, Try.ntmps12
    go_wp2_with fail; refine (mkF_any 2 0 _).mono ?_; rintro _ w1 ⟨rfl, hb1⟩; have f1 := below_keep hb1 HQ1.out; have b1 := below_join HBW.out hb1; clear k1 k2 k3 k4 a0 a1 a2 hb1; obtain ⟨k1, k2, k3, k4⟩ := blk2 f1; go_wp2_with fail; have f2 := set2 f1 (.int .i64 2) (.int .i64 0); (have b2 := (b1.setCell (p := ⟨w.heap.size + 1, 0, none⟩) (by simp) (.int .i64 2)).setCell (p := ⟨w.heap.size + 1, 1, none⟩) (by simp) (.int .i64 0)); generalize World.setCell _ _ _ = F at f2 b2 ⊢; clear k1 k2 k3 k4; obtain ⟨k1, k2, -⟩ := blk2 f2; (exact bodyPost_ret (v := .agg #[.int .i64 2, .int .i64 0]) (by simp [results, Try.results12, go_sem, k1, k2]) rfl ⟨rfl, b2⟩)
  by_cases h8 : 8 < s.n
  · clear hok
    go_enter Try.func12, Try.ntmps12
    go_wp2_with fail; refine (mkF_any 2 0 _).mono ?_; rintro _ w1 ⟨rfl, hb1⟩; have f1 := below_keep hb1 HQ1.out; have b1 := below_join HBW.out hb1; clear k1 k2 k3 k4 a0 a1 a2 hb1; obtain ⟨k1, k2, k3, k4⟩ := blk2 f1; go_wp2_with fail; have f2 := set2 f1 (.int .i64 2) (.int .i64 0); (have b2 := (b1.setCell (p := ⟨w.heap.size + 1, 0, none⟩) (by simp) (.int .i64 2)).setCell (p := ⟨w.heap.size + 1, 1, none⟩) (by simp) (.int .i64 0)); generalize World.setCell _ _ _ = F at f2 b2 ⊢; clear k1 k2 k3 k4; obtain ⟨k1, k2, -⟩ := blk2 f2; (exact bodyPost_ret (v := .agg #[.int .i64 2, .int .i64 0]) (by simp [results, Try.results12, go_sem, k1, k2]) rfl ⟨rfl, b2⟩)
  by_cases hf : 10 < s.funs.length
  · have hfJ : (10 : Int) < (s.funs.length : Int) := by omega
    clear hok hf
    go_enter Try.func12, Try.ntmps12
    go_wp2_with fail; refine (mkF_any 2 0 _).mono ?_; rintro _ w1 ⟨rfl, hb1⟩; have f1 := below_keep hb1 HQ1.out; have b1 := below_join HBW.out hb1; clear k1 k2 k3 k4 a0 a1 a2 hb1; obtain ⟨k1, k2, k3, k4⟩ := blk2 f1; go_wp2_with fail; have f2 := set2 f1 (.int .i64 2) (.int .i64 0); (have b2 := (b1.setCell (p := ⟨w.heap.size + 1, 0, none⟩) (by simp) (.int .i64 2)).setCell (p := ⟨w.heap.size + 1, 1, none⟩) (by simp) (.int .i64 0)); generalize World.setCell _ _ _ = F at f2 b2 ⊢; clear k1 k2 k3 k4; obtain ⟨k1, k2, -⟩ := blk2 f2; (exact bodyPost_ret (v := .agg #[.int .i64 2, .int .i64 0]) (by simp [results, Try.results12, go_sem, k1, k2]) rfl ⟨rfl, b2⟩)
  · have hfJ : ¬ (10 : Int) < (s.funs.length : Int) := by omega
    (have hpJ : (10 : Int) < (s.preds.length : Int) := by omega); clear hok hf
    go_enter Try.func12, Try.ntmps12
    go_wp2_with fail; refine (mkF_any 2 0 _).mono ?_; rintro _ w1 ⟨rfl, hb1⟩; have f1 := below_keep hb1 HQ1.out; have b1 := below_join HBW.out hb1; clear k1 k2 k3 k4 a0 a1 a2 hb1; obtain ⟨k1, k2, k3, k4⟩ := blk2 f1; go_wp2_with fail; have f2 := set2 f1 (.int .i64 2) (.int .i64 0); (have b2 := (b1.setCell (p := ⟨w.heap.size + 1, 0, none⟩) (by simp) (.int .i64 2)).setCell (p := ⟨w.heap.size + 1, 1, none⟩) (by simp) (.int .i64 0)); generalize World.setCell _ _ _ = F at f2 b2 ⊢; clear k1 k2 k3 k4; obtain ⟨k1, k2, -⟩ := blk2 f2; (exact bodyPost_ret (v := .agg #[.int .i64 2, .int .i64 0]) (by simp [results, Try.results12, go_sem, k1, k2]) rfl ⟨rfl, b2⟩)
end Go.Proofs.Ytblodnpfckflaak
