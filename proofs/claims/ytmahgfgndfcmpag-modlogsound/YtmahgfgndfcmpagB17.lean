/- Texts of one proof, one behind the other: MLB. -/
import Derived.Test.YtmahgfgndfcmpagB12
/- Walks: worlds sorted (slices.stableCmpFunc, SortStableFunc). -/
namespace Go.Proofs.Ytmahgfgndfcmpag
open Go.RowKit Go.Sort

set_option maxRecDepth 10000 in
set_option maxHeartbeats 8000000 in
theorem stable_any {ps : List PartM} (g cap : Nat) (rest : List Value) (l : List Nat) (hl : l.length ≤ 100000) (hc : l.length ≤ cap) (w : World) (hr : SRow ps w g l rest) :
    Calls Try.prog 131 #[.slice (some ⟨g, 0, none⟩) l.length cap, .int .i64 (l.length : Nat), .func (.func 111) #[] #[]] w fun e w' => SortP ps g l rest w e w' := by
  have HR : Hid (SRow ps w g l rest) := hr
  have HIn : Hid (∀ (l1 : List Nat) (x y : Nat) (W : World), l1.Perm l → x ≤ l.length → y ≤ l.length → SRow ps W g l1 rest → Calls Try.prog 141 #[.slice (some ⟨g, 0, none⟩) l.length cap, .int .i64 (x : Nat), .int .i64 (y : Nat), .func (.func 111) #[] #[]] W fun e w' => SortP ps g l1 rest W e w') := fun l1 x y W hp q1 q2 q3 => by
    (have := insertW_any (ps := ps) g cap rest l1 (by rw [hp.length_eq]; exact hl) (by rw [hp.length_eq]; exact hc) x y (by rw [hp.length_eq]; exact q1) (by rw [hp.length_eq]; exact q2) W q3)
    rwa [hp.length_eq] at this
  have HSy : Hid (∀ (l1 : List Nat) (x y z : Nat) (W : World), l1.Perm l → x < y → y < z → z ≤ l.length → SRow ps W g l1 rest → Calls Try.prog 142 #[.slice (some ⟨g, 0, none⟩) l.length cap, .int .i64 (x : Nat), .int .i64 (y : Nat), .int .i64 (z : Nat), .func (.func 111) #[] #[]] W fun e w' => SortP ps g l1 rest W e w') := fun l1 x y z W hp q1 q2 q3 q4 => by
    (have := symm_all (ps := ps) g cap rest (z - x + 1) l1 x y z W (by rw [hp.length_eq]; exact hl) (by rw [hp.length_eq]; exact hc) q1 q2 (by rw [hp.length_eq]; exact q3) (Nat.lt_succ_self _) q4)
    rwa [hp.length_eq] at this
  obtain ⟨n, hn⟩ : ∃ n, l.length = n := ⟨_, rfl⟩; rw [hn] at HIn HSy hl hc ⊢; have HNn : Hid (l.length = n ∧ n ≤ 100000) := ⟨hn, hl⟩; (have hnI : (n : Int) ≤ 100000 := by omega); clear hr hl hc hn
  go_enter Try.func131, Try.ntmps131
  go_wp2_with fail
  go_loopg [7, 8] (n + 20) (fun gg c d wr => ∃ x y l1, gg = n + 20 - x ∧ c = .int .i64 (x : Nat) ∧ d = .int .i64 (y : Nat) ∧ Hid (y = x + 20 ∧ x ≤ n) ∧ Hid (l1.Perm l) ∧ Hid (SRow ps wr g l1 rest) ∧ Hid (Kept (fun b => b ≠ g) w wr))
  case atStart => exact ⟨0, 20, l, rfl, rfl, rfl, ⟨rfl, by omega⟩, List.Perm.refl _, HR, Kept.refl _ _⟩
  case round =>
    obtain ⟨x, y, l1, hg, rfl, rfl, HX, HP1, HR1, HK1⟩ := hrel; have HGk : Hid (gk = n + 20 - x) := hg; (have hxI : (x : Int) ≤ 100000 := by have := HX.out; omega); (have hyI : (y : Int) ≤ 200000 := by have := HX.out; omega); clear hg; by_cases hyn : y ≤ n
    · have HY : Hid (y ≤ n) := hyn
      go_wp2_with fail; (refine (HIn.out l1 x y wr HP1.out (by have := HX.out; omega) HY.out HR1.out).mono ?_); rintro _ w1 ⟨l2, q1, rfl, q3, q4⟩; have HP2 : Hid (l2.Perm l) := q1.trans HP1.out; have HR2 : Hid (SRow ps w1 g l2 rest) := q3; (have HK2 : Hid (Kept (fun b => b ≠ g) w w1) := keptW_on HK1.out q4 fun _ _ h => h); clear q1 q3 q4; go_wp2_with fail
      go_roundg (n + 20 - y)
      case measure => have := HGk.out; have := HX.out; have := HY.out; omega
      case rel => exact ⟨y, y + 20, l2, rfl, rfl, by go_num, ⟨rfl, HY.out⟩, HP2, HR2, HK2⟩
    have hyf : decide (y ≤ n) = false := decide_eq_false hyn; clear hyn; go_wp2_with fail; (refine (HIn.out l1 x n wr HP1.out (by have := HX.out; omega) (by omega) HR1.out).mono ?_); rintro _ w1 ⟨l2, q1, rfl, q3, q4⟩; have HP2 : Hid (l2.Perm l) := q1.trans HP1.out; have HR2 : Hid (SRow ps w1 g l2 rest) := q3; (have HK2 : Hid (Kept (fun b => b ≠ g) w w1) := keptW_on HK1.out q4 fun _ _ h => h); clear q1 q3 q4 hyf HP1 HR1 HK1 HGk; go_wp2_with fail
    go_loopg [6, 7, 8, 9] (n - 20) (fun gg s c d m9 wr => ∃ bs l1, gg = n - bs ∧ s = .int .i64 (bs : Nat) ∧ Hid (20 ≤ bs ∧ bs ≤ 200000) ∧ Hid (l1.Perm l) ∧ Hid (SRow ps wr g l1 rest) ∧ Hid (Kept (fun b => b ≠ g) w wr))
    case atStart => exact ⟨20, l2, rfl, rfl, by show _ ∧ _; omega, HP2, HR2, HK2⟩
    case round =>
      obtain ⟨bs, l1, hg, rfl, HBs, HP1, HR1, HK1⟩ := hrel; have HGk : Hid (gk = n - bs) := hg; (have hbsI : (bs : Int) ≤ 200000 := by have := HBs.out; omega); clear hg; by_cases hbn : bs < n
      case neg =>
        have hbf : decide (bs < n) = false := decide_eq_false hbn; clear hbn; go_wp2_with fail
        go_end0
        exact ⟨l1, HP1.out, rfl, HR1.out, HK1.out⟩
      have HBn : Hid (bs < n) := hbn; go_wp2_with fail; clear hbn
      go_loopg [7, 8] (n + 2 * bs) (fun gg c d wr => ∃ x y l1, gg = n + 2 * bs - x ∧ c = .int .i64 (x : Nat) ∧ d = .int .i64 (y : Nat) ∧ Hid (y = x + 2 * bs ∧ x ≤ n) ∧ Hid (l1.Perm l) ∧ Hid (SRow ps wr g l1 rest) ∧ Hid (Kept (fun b => b ≠ g) w wr))
      case atStart => exact ⟨0, 2 * bs, l1, rfl, rfl, by go_num, ⟨by omega, by omega⟩, HP1, HR1, HK1⟩
      case round =>
        obtain ⟨x, y, l3, hg, rfl, rfl, HX3, HP3, HR3, HK3⟩ := hrel; have HG3 : Hid (gk = n + 2 * bs - x) := hg; (have hxI3 : (x : Int) ≤ 100000 := by have := HX3.out; omega); (have hyI3 : (y : Int) ≤ 600000 := by have := HX3.out; omega); obtain ⟨m, hm⟩ : ∃ m, m = x + bs := ⟨_, rfl⟩; (have hmI : (x : Int) + (bs : Int) = (m : Int) := by omega); (have hmI2 : (m : Int) ≤ 400000 := by omega); have HM : Hid (m = x + bs) := hm; clear hg hm; by_cases hyn : y ≤ n
        · have HY : Hid (y ≤ n) := hyn
          obtain ⟨y2, hy2⟩ : ∃ y2, y2 = y + 2 * bs := ⟨_, rfl⟩; (have hy2I : (y : Int) + 2 * (bs : Int) = (y2 : Int) := by omega); have HY2 : Hid (y2 = y + 2 * bs) := hy2; clear hy2; go_wp2_with fail; (refine (HSy.out l3 x m y wr HP3.out (by have := HX3.out; have := HM.out; have := HBs.out; omega) (by have := HX3.out; have := HM.out; have := HBs.out; omega) HY.out HR3.out).mono ?_); rintro _ w4 ⟨l4, q1, rfl, q3, q4⟩; have HP4 : Hid (l4.Perm l) := q1.trans HP3.out; have HR4 : Hid (SRow ps w4 g l4 rest) := q3; (have HK4 : Hid (Kept (fun b => b ≠ g) w w4) := keptW_on HK3.out q4 fun _ _ h => h); clear q1 q3 q4; go_wp2_with fail
          go_roundg (n + 2 * bs - y)
          case measure => have := HG3.out; have := HX3.out; have := HY.out; have := HBs.out; omega
          case rel => exact ⟨y, y2, l4, rfl, rfl, by go_num, ⟨HY2.out, HY.out⟩, HP4, HR4, HK4⟩
        have hyf : decide (y ≤ n) = false := decide_eq_false hyn; obtain ⟨b2, hb2⟩ : ∃ b2, b2 = bs * 2 := ⟨_, rfl⟩; (have hb2I : (bs : Int) * 2 = (b2 : Int) := by omega); have HB2 : Hid (b2 = bs * 2) := hb2; clear hyn hb2; by_cases hmn : m < n
        · have HMn : Hid (m < n) := hmn
          go_wp2_with fail; (refine (HSy.out l3 x m n wr HP3.out (by have := HX3.out; have := HM.out; have := HBs.out; omega) HMn.out (by omega) HR3.out).mono ?_); rintro _ w4 ⟨l4, q1, rfl, q3, q4⟩; have HP4 : Hid (l4.Perm l) := q1.trans HP3.out; have HR4 : Hid (SRow ps w4 g l4 rest) := q3; (have HK4 : Hid (Kept (fun b => b ≠ g) w w4) := keptW_on HK3.out q4 fun _ _ h => h); clear q1 q3 q4; go_wp2_with fail
          go_roundg (n - b2)
          case measure => have := HGk.out; have := HB2.out; have := HBn.out; have := HBs.out; omega
          case rel => exact ⟨b2, l4, rfl, by go_num, by have := HB2.out; have := HBs.out; have := HBn.out; have := HNn.out; show _ ∧ _; omega, HP4, HR4, HK4⟩
        · have hmf : decide (m < n) = false := decide_eq_false hmn
          clear hmn; go_wp2_with fail
          go_roundg (n - b2)
          case measure => have := HGk.out; have := HB2.out; have := HBn.out; have := HBs.out; omega
          case rel => exact ⟨b2, l3, rfl, by go_num, by have := HB2.out; have := HBs.out; have := HBn.out; have := HNn.out; show _ ∧ _; omega, HP3, HR3, HK3⟩
set_option maxHeartbeats 1000000 in
theorem sortW_any {ps : List PartM} (g cap : Nat) (rest : List Value) (l : List Nat) (hl : l.length ≤ 100000) (hc : l.length ≤ cap) (w : World) (hr : SRow ps w g l rest) :
    Calls Try.prog 110 #[.slice (some ⟨g, 0, none⟩) l.length cap, .func (.func 111) #[] #[]] w fun e w' => SortP ps g l rest w e w' := by
  have HS : Hid (Calls Try.prog 131 #[.slice (some ⟨g, 0, none⟩) l.length cap, .int .i64 (l.length : Nat), .func (.func 111) #[] #[]] w _) := stable_any g cap rest l hl hc w hr; clear hr hl; (have hcI : (l.length : Int) ≤ (cap : Int) := by omega); clear hc
  go_enter Try.func110, Try.ntmps110
  go_wp2_with fail; refine HS.out.mono ?_; rintro _ w1 ⟨l1, q1, rfl, q3, q4⟩; (have HQ : Hid (l1.Perm l ∧ SRow ps w1 g l1 rest ∧ Kept (fun b => b ≠ g) w w1) := ⟨q1, q3, q4⟩); clear q1 q3 q4; go_wp2_with fail
  go_end0
  exact ⟨l1, HQ.out.1, rfl, HQ.out.2.1, HQ.out.2.2⟩
end Go.Proofs.Ytmahgfgndfcmpag
