/- Texts of one proof, one behind the other: FW3, FW4. -/
import Derived.Test.YtpiaeapgjljjhaaGreatB13
/- Walks: what Check of first order says of one node. -/
namespace Go.Proofs.YtpiaeapgjljjhaaGreat
open Go.RowKit

def ekidsN (k : Int) : Int := if k = 5 ∨ k = 9 ∨ k = 10 then 1 else if k = 6 ∨ k = 7 ∨ k = 8 then 2 else 0
def ekindB (k : Int) : Bool := decide (1 ≤ k) && decide (k ≤ 10)
def quanB (k : Int) : Bool := decide (k = 9) || decide (k = 10)
def ewordsB (k : Int) (len : Nat) : Bool := if k = 1 then true else if k = 2 then decide (len = 2) else decide (len = 0)
def enameB (k : Int) (n : List UInt8) : Bool := if k = 1 then isBg n else if quanB k = true then isNm n else n.isEmpty
/-- What is wrong at an expression's node. -/
def enodeF (k : Int) (n : ByteArray) (wl kl : Nat) : Option Int := if ekindB k = false then some 4 else if ewordsB k wl = false ∨ (kl : Int) ≠ ekidsN k then some 9 else if enameB k n.data.toList = false then some 8 else none
/-- What is wrong at a word's node. -/
def wnodeF (n : ByteArray) (al : Nat) : Option Int := if isNm n.data.toList = false ∧ isBg n.data.toList = false then some 8 else if isNm n.data.toList = true ∧ 0 < al then some 9 else none
set_option maxHeartbeats 1000000 in
theorem ekidsOf_any (k : Int) (w : World) :
    Calls Tryz.prog 135 #[.int .i64 k] w fun e w' => e = .returned (.tuple #[.int .i64 (ekidsN k), .bool (ekindB k)]) ∧ w' = w := by
  go_enter Tryz.func135, Tryz.ntmps135
  go_wp2
  all_goals
    go_ret2; refine ⟨tup_ib ?_ ?_, rfl⟩
  all_goals
    simp only [beq_iff_eq, beq_eq_false_iff_ne, ne_eq] at *
    first
      | (subst_vars; decide)
      | (unfold ekidsN; rw [if_neg (by omega), if_neg (by omega)])
      | (unfold ekindB; simp; omega)
set_option maxHeartbeats 1000000 in
theorem quan_any (k : Int) (w : World) :
    Calls Tryz.prog 104 #[.int .i64 k] w fun e w' => e = .returned (.bool (quanB k)) ∧ w' = w := by
  unfold quanB; by_cases h1 : k = 9
  · subst h1
    go_enter Tryz.func104, Tryz.ntmps104
    go_wp2; go_ret; exact ⟨ret_bool rfl, rfl⟩
  · have h1J : (k == 9) = false := by simpa using h1
    by_cases h2 : k = 10
    · subst h2
      go_enter Tryz.func104, Tryz.ntmps104
      go_wp2; go_ret; exact ⟨ret_bool rfl, rfl⟩
    · have h2J : (k == 10) = false := by simpa using h2
      (have hr : (decide (k = 9) || decide (k = 10)) = false := by simp [h1, h2]); rw [hr]; clear h1 h2 hr
      go_enter Tryz.func104, Tryz.ntmps104
      go_wp2; go_ret; exact ⟨ret_bool rfl, rfl⟩
set_option maxHeartbeats 2000000 in
theorem itsWords_any (k : Int) (n : ByteArray) (sw sk : Option Addr) (wl cw kl ck : Nat) (w : World) :
    Calls Tryz.prog 136 #[.agg #[.int .i64 k, .string n, .slice sw wl cw, .slice sk kl ck]] w fun e w' => e = .returned (.bool (ewordsB k wl)) ∧ Below w.heap.size w w' := by
  have hb := below_more (Below.refl w.heap.size w) (.cells #[.int .i64 k, .string n, .slice sw wl cw, .slice sk kl ck] 25 (0, 0)); have HB : Hid (Below w.heap.size w _) := hb; clear hb; unfold ewordsB; by_cases h1 : k = 1
  · subst h1
    go_enter Tryz.func136, Tryz.ntmps136
    go_wp2; go_ret; exact ⟨ret_bool rfl, HB.out⟩
  · have h1J : (k == 1) = false := by simpa using h1
    rw [if_neg h1]; by_cases h2 : k = 2
    · subst h2
      rw [if_pos rfl]; by_cases h3 : wl = 2
      · have h3J : ((wl : Int) == 2) = true := by simp; omega
        rw [decide_eq_true h3]; clear h3 h1 h1J
        go_enter Tryz.func136, Tryz.ntmps136
        go_wp2; go_ret; exact ⟨ret_bool rfl, HB.out⟩
      · have h3J : ((wl : Int) == 2) = false := by simp; omega
        rw [decide_eq_false h3]; clear h3 h1 h1J
        go_enter Tryz.func136, Tryz.ntmps136
        go_wp2; go_ret; exact ⟨ret_bool rfl, HB.out⟩
    · have h2J : (k == 2) = false := by simpa using h2
      rw [if_neg h2]; by_cases h3 : wl = 0
      · have h3J : ((wl : Int) == 0) = true := by simp; omega
        rw [decide_eq_true h3]; clear h3 h1 h2
        go_enter Tryz.func136, Tryz.ntmps136
        go_wp2; go_ret; exact ⟨ret_bool rfl, HB.out⟩
      · have h3J : ((wl : Int) == 0) = false := by simp; omega
        rw [decide_eq_false h3]; clear h3 h1 h2
        go_enter Tryz.func136, Tryz.ntmps136
        go_wp2; go_ret; exact ⟨ret_bool rfl, HB.out⟩
end Go.Proofs.YtpiaeapgjljjhaaGreat
/- Walks: what Check of first order says of one node, two. -/
namespace Go.Proofs.YtpiaeapgjljjhaaGreat
open Go.RowKit

set_option maxHeartbeats 2000000 in
theorem itsName_any (k : Int) (n : ByteArray) (hn : n.size ≤ maxLen) (sw sk : Option Addr) (wl cw kl ck : Nat) (w : World) :
    Calls Tryz.prog 137 #[.agg #[.int .i64 k, .string n, .slice sw wl cw, .slice sk kl ck]] w fun e w' => e = .returned (.bool (enameB k n.data.toList)) ∧ Below w.heap.size w w' := by
  have HB : Hid (Below w.heap.size w (w.alloc (.cells #[.int .i64 k, .string n, .slice sw wl cw, .slice sk kl ck] 25 (0, 0)))) := below_more (Below.refl w.heap.size w) _; (have HBg : Hid (∀ w, Calls Tryz.prog 109 #[.string n] w fun e w' => e = .returned (.bool (isBg n.data.toList)) ∧ w' = w) := fun w => big_any n w); (have HVr : Hid (∀ w, Calls Tryz.prog 62 #[.string n] w fun e w' => e = .returned (.bool (isNm n.data.toList)) ∧ Below w.heap.size w w') := fun w => var_any n hn w); (have HQu : Hid (∀ w, Calls Tryz.prog 104 #[.int .i64 k] w fun e w' => e = .returned (.bool (quanB k)) ∧ w' = w) := fun w => quan_any k w); unfold enameB; clear hn; by_cases h1 : k = 1
  · subst h1
    rw [if_pos rfl]; generalize isBg n.data.toList = bb at *
    go_enter Tryz.func137, Tryz.ntmps137
    go_wp2_with (first
      | (go_at_call 109; refine (HBg.out _).mono ?_; rintro e w1 ⟨rfl, rfl⟩)
      | fail)
    go_ret; exact ⟨ret_bool rfl, HB.out⟩
  · have h1J : (k == 1) = false := by simpa using h1
    rw [if_neg h1]; clear h1
    rcases hq : quanB k with _ | _
    · rw [hq] at HQu
      (rw [if_neg (by simp), ← ByteArray.toList_eq]); clear hq
      go_enter Tryz.func137, Tryz.ntmps137
      go_wp2_with (first
        | (go_at_call 104; refine (HQu.out _).mono ?_; rintro e w3 ⟨rfl, rfl⟩)
        | fail)
      go_ret; exact ⟨rfl, HB.out⟩
    · rw [hq] at HQu
      rw [if_pos rfl]; clear hq; generalize isNm n.data.toList = bb at *
      go_enter Tryz.func137, Tryz.ntmps137
      go_wp2_with (first
        | (go_at_call 104; refine (HQu.out _).mono ?_; rintro e w3 ⟨rfl, rfl⟩)
        | (go_at_call 62; refine (HVr.out _).mono ?_; rintro e w2 ⟨rfl, hb2⟩)
        | fail)
      go_ret; exact ⟨ret_bool rfl, below_join HB.out hb2⟩
/-- What looking at a node leaves. -/
def NdPost (o : Option Int) (at_ : Int) (w : World) (e : Ending) (w' : World) : Prop := (match o with
  | none => e = .returned (.tuple #[])
  | some c => e = .panicked (stopC c at_)) ∧ Below w.heap.size w w'
set_option maxHeartbeats 4000000 in
theorem checkExpr_any (k at_ : Int) (n : ByteArray) (hn : n.size ≤ maxLen) (sw sk : Option Addr) (wl cw kl ck : Nat) (w : World) :
    Calls Tryz.prog 92 #[.agg #[.int .i64 k, .string n, .slice sw wl cw, .slice sk kl ck], .int .i64 at_] w (NdPost (enodeF k n wl kl) at_ w) := by
  have HB : Hid (Below w.heap.size w (w.alloc (.cells #[.int .i64 k, .string n, .slice sw wl cw, .slice sk kl ck] 25 (0, 0)))) := below_more (Below.refl w.heap.size w) _; have HQ : Hid ((w.alloc (.cells #[.int .i64 k, .string n, .slice sw wl cw, .slice sk kl ck] 25 (0, 0))).heap[w.heap.size]? = some (.cells #[.int .i64 k, .string n, .slice sw wl cw, .slice sk kl ck] 25 (0, 0))) := blk_new _ _; (have HWd : Hid (∀ w, Calls Tryz.prog 136 #[.agg #[.int .i64 k, .string n, .slice sw wl cw, .slice sk kl ck]] w fun e w' => e = .returned (.bool (ewordsB k wl)) ∧ Below w.heap.size w w') := fun w => itsWords_any k n sw sk wl cw kl ck w); (have HNm : Hid (∀ w, Calls Tryz.prog 137 #[.agg #[.int .i64 k, .string n, .slice sw wl cw, .slice sk kl ck]] w fun e w' => e = .returned (.bool (enameB k n.data.toList)) ∧ Below w.heap.size w w') := fun w => itsName_any k n hn sw sk wl cw kl ck w); (have HKd : Hid (∀ w, Calls Tryz.prog 135 #[.int .i64 k] w fun e w' => e = .returned (.tuple #[.int .i64 (ekidsN k), .bool (ekindB k)]) ∧ w' = w) := fun w => ekidsOf_any k w); (have hse : ∀ a b : Int, True := fun _ _ => trivial); clear hn hse; unfold NdPost enodeF; generalize ekidsN k = kn at *; generalize enameB k n.data.toList = nb at *; generalize ewordsB k wl = wb at *
  rcases hk : ekindB k with _ | _
  · rw [hk] at HKd
    rw [if_pos rfl]; clear hk HNm HWd
    go_enter Tryz.func92, Tryz.ntmps92
    go_wp2_with (first
      | (go_at_call 135; refine (HKd.out _).mono ?_; rintro e w1 ⟨rfl, rfl⟩)
      | (go_at_call 134; refine (stop_any _ _ _).mono ?_; rintro e w4 ⟨rfl, rfl⟩)
      | fail)
    exact ⟨rfl, rfl, HB.out⟩
  rw [hk] at HKd; (rw [if_neg (by simp)]); clear hk
  rcases wb with _ | _
  · rw [if_pos (Or.inl rfl)]
    clear HNm
    go_enter Tryz.func92, Tryz.ntmps92
    go_wp2_with (first
      | (go_at_call 135; refine (HKd.out _).mono ?_; rintro e w1 ⟨rfl, rfl⟩)
      | (go_at_call 136; refine (HWd.out _).mono ?_; rintro e w2 ⟨rfl, hb2⟩)
      | (go_at_call 134; refine (stop_any _ _ _).mono ?_; rintro e w4 ⟨rfl, rfl⟩)
      | fail)
    exact ⟨rfl, rfl, below_join HB.out hb2⟩
  by_cases hkl : (kl : Int) = kn
  case neg =>
    rw [if_pos (Or.inr hkl)]; (have hkJ : ((kl : Int) != kn) = true := by simpa using hkl); clear HNm hkl
    go_enter Tryz.func92, Tryz.ntmps92
    go_wp2_with (first
      | (go_at_call 135; refine (HKd.out _).mono ?_; rintro e w1 ⟨rfl, rfl⟩)
      | (go_at_call 136; refine (HWd.out _).mono ?_; rintro e w2 ⟨rfl, hb2⟩; obtain ⟨q0, q1, q2, q3⟩ := blk4L (below_keep hb2 HQ.out))
      | (go_at_call 134; refine (stop_any _ _ _).mono ?_; rintro e w4 ⟨rfl, rfl⟩)
      | fail)
    exact ⟨rfl, rfl, below_join HB.out hb2⟩
  (rw [if_neg (fun h => h.elim (fun h => by cases h) (fun h => h hkl))]); (have hkJ : ((kl : Int) != kn) = false := by simpa using hkl); clear hkl
  rcases nb with _ | _
  · rw [if_pos rfl]
    go_enter Tryz.func92, Tryz.ntmps92
    go_wp2_with (first
      | (go_at_call 135; refine (HKd.out _).mono ?_; rintro e w1 ⟨rfl, rfl⟩)
      | (go_at_call 136; refine (HWd.out _).mono ?_; rintro e w2 ⟨rfl, hb2⟩; obtain ⟨q0, q1, q2, q3⟩ := blk4L (below_keep hb2 HQ.out))
      | (go_at_call 137; refine (HNm.out _).mono ?_; rintro e w3 ⟨rfl, hb3⟩)
      | (go_at_call 134; refine (stop_any _ _ _).mono ?_; rintro e w4 ⟨rfl, rfl⟩)
      | fail)
    exact ⟨rfl, rfl, below_join (below_join HB.out hb2) hb3⟩
  · rw [if_neg (by simp)]
    go_enter Tryz.func92, Tryz.ntmps92
    go_wp2_with (first
      | (go_at_call 135; refine (HKd.out _).mono ?_; rintro e w1 ⟨rfl, rfl⟩)
      | (go_at_call 136; refine (HWd.out _).mono ?_; rintro e w2 ⟨rfl, hb2⟩; obtain ⟨q0, q1, q2, q3⟩ := blk4L (below_keep hb2 HQ.out))
      | (go_at_call 137; refine (HNm.out _).mono ?_; rintro e w3 ⟨rfl, hb3⟩)
      | fail)
    go_end0
    exact ⟨rfl, below_join (below_join HB.out hb2) hb3⟩
set_option maxHeartbeats 4000000 in
theorem checkWord_any (at_ : Int) (n : ByteArray) (hn : n.size ≤ maxLen) (sl : Option Addr) (al cap : Nat) (w : World) :
    Calls Tryz.prog 108 #[.agg #[.string n, .slice sl al cap], .int .i64 at_] w (NdPost (wnodeF n al) at_ w) := by
  have HB : Hid (Below w.heap.size w (w.alloc (.cells #[.string n, .slice sl al cap] 44 (0, 0)))) := below_more (Below.refl w.heap.size w) _; have HQ : Hid ((w.alloc (.cells #[.string n, .slice sl al cap] 44 (0, 0))).heap[w.heap.size]? = some (.cells #[.string n, .slice sl al cap] 44 (0, 0))) := blk_new _ _; (have HAn : Hid (∀ w, Calls Tryz.prog 161 #[.string n] w fun e w' => e = .returned (.bool (anyB n.data.toList)) ∧ Below w.heap.size w w') := fun w => anyName_any n w hn); unfold anyB at HAn; (have HVr : Hid (∀ w, Calls Tryz.prog 62 #[.string n] w fun e w' => e = .returned (.bool (isNm n.data.toList)) ∧ Below w.heap.size w w') := fun w => var_any n hn w); clear hn; unfold NdPost wnodeF; generalize isNm n.data.toList = nb at *; generalize isBg n.data.toList = bb at *
  rcases nb with _ | _
  · rw [Bool.false_or] at HAn
    rcases bb with _ | _
    · rw [if_pos ⟨rfl, rfl⟩]
      go_enter Tryz.func108, Tryz.ntmps108
      go_wp2_with (first
        | (go_at_call 161; refine (HAn.out _).mono ?_; rintro e w2 ⟨rfl, hb2⟩; obtain ⟨q0, q1, -⟩ := blk2 (below_keep hb2 HQ.out))
        | (go_at_call 134; refine (stop_any _ _ _).mono ?_; rintro e w4 ⟨rfl, rfl⟩)
        | fail)
      exact ⟨rfl, rfl, below_join HB.out hb2⟩
    · rw [if_neg (by simp), if_neg (by simp)]
      by_cases hal : 0 < al
      · have halI : (0 : Int) < (al : Int) := by omega
        go_enter Tryz.func108, Tryz.ntmps108
        go_wp2_with (first
          | (go_at_call 161; refine (HAn.out _).mono ?_; rintro e w2 ⟨rfl, hb2⟩; obtain ⟨q0, q1, -⟩ := blk2 (below_keep hb2 HQ.out))
          | (go_at_call 62; refine (HVr.out _).mono ?_; rintro e w3 ⟨rfl, hb3⟩; obtain ⟨s0, s1, -⟩ := blk2 (below_keep hb3 (below_keep hb2 HQ.out)))
          | fail)
        go_end0
        exact ⟨rfl, below_join (below_join HB.out hb2) hb3⟩
      · have halI : ¬ (0 : Int) < (al : Int) := by omega
        go_enter Tryz.func108, Tryz.ntmps108
        go_wp2_with (first
          | (go_at_call 161; refine (HAn.out _).mono ?_; rintro e w2 ⟨rfl, hb2⟩; obtain ⟨q0, q1, -⟩ := blk2 (below_keep hb2 HQ.out))
          | fail)
        go_end0
        exact ⟨rfl, below_join HB.out hb2⟩
  · rw [Bool.true_or] at HAn
    by_cases hal : 0 < al
    · have halI : (0 : Int) < (al : Int) := by omega
      (rw [if_neg (by simp), if_pos ⟨rfl, hal⟩])
      go_enter Tryz.func108, Tryz.ntmps108
      go_wp2_with (first
        | (go_at_call 161; refine (HAn.out _).mono ?_; rintro e w2 ⟨rfl, hb2⟩; obtain ⟨q0, q1, -⟩ := blk2 (below_keep hb2 HQ.out))
        | (go_at_call 62; refine (HVr.out _).mono ?_; rintro e w3 ⟨rfl, hb3⟩; obtain ⟨s0, s1, -⟩ := blk2 (below_keep hb3 (below_keep hb2 HQ.out)))
        | (go_at_call 134; refine (stop_any _ _ _).mono ?_; rintro e w4 ⟨rfl, rfl⟩)
        | fail)
      exact ⟨rfl, rfl, below_join (below_join HB.out hb2) hb3⟩
    · have halI : ¬ (0 : Int) < (al : Int) := by omega
      (rw [if_neg (by simp), if_neg (by simp; omega)])
      go_enter Tryz.func108, Tryz.ntmps108
      go_wp2_with (first
        | (go_at_call 161; refine (HAn.out _).mono ?_; rintro e w2 ⟨rfl, hb2⟩; obtain ⟨q0, q1, -⟩ := blk2 (below_keep hb2 HQ.out))
        | fail)
      go_end0
      exact ⟨rfl, below_join HB.out hb2⟩
end Go.Proofs.YtpiaeapgjljjhaaGreat
