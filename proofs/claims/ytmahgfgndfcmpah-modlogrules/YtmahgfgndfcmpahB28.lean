/- Texts of one proof, one behind the other: MLB, MLC. -/
import Derived.Test.YtmahgfgndfcmpahB27
import Derived.Test.YtmahgfgndfcmpahB24
import Derived.Test.YtmahgfgndfcmpahB21
/- Walks: worlds sorted (slices.stableCmpFunc, SortStableFunc). -/
namespace Go.Proofs.Ytmahgfgndfcmpah
open Go.RowKit Go.Sort

set_option maxRecDepth 10000 in
set_option maxHeartbeats 8000000 in
theorem stable_any {ps : List PartM} (g cap : Nat) (rest : List Value) (l : List Nat) (hl : l.length ≤ 100000) (hc : l.length ≤ cap) (w : World) (hr : SRow ps w g l rest) :
    Calls Try.prog 63 #[.slice (some ⟨g, 0, none⟩) l.length cap, .int .i64 (l.length : Nat), .func (.func 52) #[] #[]] w fun e w' => SortP ps g l rest w e w' := by
  have HR : Hid (SRow ps w g l rest) := hr
  have HIn : Hid (∀ (l1 : List Nat) (x y : Nat) (W : World), l1.Perm l → x ≤ l.length → y ≤ l.length → SRow ps W g l1 rest → Calls Try.prog 70 #[.slice (some ⟨g, 0, none⟩) l.length cap, .int .i64 (x : Nat), .int .i64 (y : Nat), .func (.func 52) #[] #[]] W fun e w' => SortP ps g l1 rest W e w') := fun l1 x y W hp q1 q2 q3 => by
    (have := insertW_any (ps := ps) g cap rest l1 (by rw [hp.length_eq]; exact hl) (by rw [hp.length_eq]; exact hc) x y (by rw [hp.length_eq]; exact q1) (by rw [hp.length_eq]; exact q2) W q3)
    rwa [hp.length_eq] at this
  have HSy : Hid (∀ (l1 : List Nat) (x y z : Nat) (W : World), l1.Perm l → x < y → y < z → z ≤ l.length → SRow ps W g l1 rest → Calls Try.prog 71 #[.slice (some ⟨g, 0, none⟩) l.length cap, .int .i64 (x : Nat), .int .i64 (y : Nat), .int .i64 (z : Nat), .func (.func 52) #[] #[]] W fun e w' => SortP ps g l1 rest W e w') := fun l1 x y z W hp q1 q2 q3 q4 => by
    (have := symm_all (ps := ps) g cap rest (z - x + 1) l1 x y z W (by rw [hp.length_eq]; exact hl) (by rw [hp.length_eq]; exact hc) q1 q2 (by rw [hp.length_eq]; exact q3) (Nat.lt_succ_self _) q4)
    rwa [hp.length_eq] at this
  obtain ⟨n, hn⟩ : ∃ n, l.length = n := ⟨_, rfl⟩; rw [hn] at HIn HSy hl hc ⊢; have HNn : Hid (l.length = n ∧ n ≤ 100000) := ⟨hn, hl⟩; (have hnI : (n : Int) ≤ 100000 := by omega); clear hr hl hc hn
  go_enter Try.func63, Try.ntmps63
  go_wp2_with fail
  go_loopg [7, 8] (n + 20) (fun gg c d wr => ∃ x y l1, gg = n + 20 - x ∧ c = .int .i64 (x : Nat) ∧ d = .int .i64 (y : Nat) ∧ Hid (y = x + 20 ∧ x ≤ n) ∧ Hid (l1.Perm l) ∧ Hid (SRow ps wr g l1 rest) ∧ Hid (Kept (fun b => b ≠ g) w wr))
  case atStart => exact ⟨0, 20, l, rfl, rfl, rfl, ⟨rfl, by omega⟩, List.Perm.refl _, HR, Kept.refl _ _⟩
  case round =>
    obtain ⟨x, y, l1, hg, rfl, rfl, HX, HP1, HR1, HK1⟩ := hrel; have HGk : Hid (gk = n + 20 - x) := hg; (have hxI : (x : Int) ≤ 100000 := by have := HX.out; omega); (have hyI : (y : Int) ≤ 200000 := by have := HX.out; omega); clear hg; by_cases hyn : y ≤ n
    · have HY : Hid (y ≤ n) := hyn
      go_wp2_with fail; (refine (HIn.out l1 x y wr HP1.out (by have := HX.out; omega) HY.out HR1.out).mono ?_); rintro _ w1 ⟨l2, q1, rfl, q3, q4⟩; have HP2 : Hid (l2.Perm l) := q1.trans HP1.out; have HR2 : Hid (SRow ps w1 g l2 rest) := q3; (have HK2 : Hid (Kept (fun b => b ≠ g) w w1) := keptW_on HK1.out q4 fun _ _ h => h); clear q1 q3 q4; go_wp2_with fail
      go_roundg (n + 20 - y)
      case measure => have := HGk.out; have := HX.out; have := HY.out; omega
      case rel => exact ⟨y, y + 20, l2, rfl, rfl, by go_num, ⟨rfl, HY.out⟩, HP2, HR2, HK2⟩
    have hyf : decide (y ≤ n) = false := decide_eq_false hyn; clear hyn; go_wp2_with fail; (refine (HIn.out l1 x n wr HP1.out (by have := HX.out; omega) (by omega) HR1.out).mono ?_); rintro _ w1 ⟨l2, q1, rfl, q3, q4⟩; have HP2 : Hid (l2.Perm l) := q1.trans HP1.out; have HR2 : Hid (SRow ps w1 g l2 rest) := q3; (have HK2 : Hid (Kept (fun b => b ≠ g) w w1) := keptW_on HK1.out q4 fun _ _ h => h); clear q1 q3 q4 hyf HP1 HR1 HK1 HGk; go_wp2_with fail
    go_loopg [6, 7, 8, 9] (n - 20) (fun gg s c d m9 wr => ∃ bs l1, gg = n - bs ∧ s = .int .i64 (bs : Nat) ∧ Hid (20 ≤ bs ∧ bs ≤ 200000) ∧ Hid (l1.Perm l) ∧ Hid (SRow ps wr g l1 rest) ∧ Hid (Kept (fun b => b ≠ g) w wr))
    case atStart => exact ⟨20, l2, rfl, rfl, by show _ ∧ _; omega, HP2, HR2, HK2⟩
    case round =>
      obtain ⟨bs, l1, hg, rfl, HBs, HP1, HR1, HK1⟩ := hrel; have HGk : Hid (gk = n - bs) := hg; (have hbsI : (bs : Int) ≤ 200000 := by have := HBs.out; omega); clear hg; by_cases hbn : bs < n
      case neg =>
        have hbf : decide (bs < n) = false := decide_eq_false hbn; clear hbn; go_wp2_with fail
        go_end0
        exact ⟨l1, HP1.out, rfl, HR1.out, HK1.out⟩
      have HBn : Hid (bs < n) := hbn; go_wp2_with fail; clear hbn
      go_loopg [7, 8] (n + 2 * bs) (fun gg c d wr => ∃ x y l1, gg = n + 2 * bs - x ∧ c = .int .i64 (x : Nat) ∧ d = .int .i64 (y : Nat) ∧ Hid (y = x + 2 * bs ∧ x ≤ n) ∧ Hid (l1.Perm l) ∧ Hid (SRow ps wr g l1 rest) ∧ Hid (Kept (fun b => b ≠ g) w wr))
      case atStart => exact ⟨0, 2 * bs, l1, rfl, rfl, by go_num, ⟨by omega, by omega⟩, HP1, HR1, HK1⟩
      case round =>
        obtain ⟨x, y, l3, hg, rfl, rfl, HX3, HP3, HR3, HK3⟩ := hrel; have HG3 : Hid (gk = n + 2 * bs - x) := hg; (have hxI3 : (x : Int) ≤ 100000 := by have := HX3.out; omega); (have hyI3 : (y : Int) ≤ 600000 := by have := HX3.out; omega); obtain ⟨m, hm⟩ : ∃ m, m = x + bs := ⟨_, rfl⟩; (have hmI : (x : Int) + (bs : Int) = (m : Int) := by omega); (have hmI2 : (m : Int) ≤ 400000 := by omega); have HM : Hid (m = x + bs) := hm; clear hg hm; by_cases hyn : y ≤ n
        · have HY : Hid (y ≤ n) := hyn
          obtain ⟨y2, hy2⟩ : ∃ y2, y2 = y + 2 * bs := ⟨_, rfl⟩; (have hy2I : (y : Int) + 2 * (bs : Int) = (y2 : Int) := by omega); have HY2 : Hid (y2 = y + 2 * bs) := hy2; clear hy2; go_wp2_with fail; (refine (HSy.out l3 x m y wr HP3.out (by have := HX3.out; have := HM.out; have := HBs.out; omega) (by have := HX3.out; have := HM.out; have := HBs.out; omega) HY.out HR3.out).mono ?_); rintro _ w4 ⟨l4, q1, rfl, q3, q4⟩; have HP4 : Hid (l4.Perm l) := q1.trans HP3.out; have HR4 : Hid (SRow ps w4 g l4 rest) := q3; (have HK4 : Hid (Kept (fun b => b ≠ g) w w4) := keptW_on HK3.out q4 fun _ _ h => h); clear q1 q3 q4; go_wp2_with fail
          go_roundg (n + 2 * bs - y)
          case measure => have := HG3.out; have := HX3.out; have := HY.out; have := HBs.out; omega
          case rel => exact ⟨y, y2, l4, rfl, rfl, by go_num, ⟨HY2.out, HY.out⟩, HP4, HR4, HK4⟩
        have hyf : decide (y ≤ n) = false := decide_eq_false hyn; obtain ⟨b2, hb2⟩ : ∃ b2, b2 = bs * 2 := ⟨_, rfl⟩; (have hb2I : (bs : Int) * 2 = (b2 : Int) := by omega); have HB2 : Hid (b2 = bs * 2) := hb2; clear hyn hb2; by_cases hmn : m < n
        · have HMn : Hid (m < n) := hmn
          go_wp2_with fail; (refine (HSy.out l3 x m n wr HP3.out (by have := HX3.out; have := HM.out; have := HBs.out; omega) HMn.out (by omega) HR3.out).mono ?_); rintro _ w4 ⟨l4, q1, rfl, q3, q4⟩; have HP4 : Hid (l4.Perm l) := q1.trans HP3.out; have HR4 : Hid (SRow ps w4 g l4 rest) := q3; (have HK4 : Hid (Kept (fun b => b ≠ g) w w4) := keptW_on HK3.out q4 fun _ _ h => h); clear q1 q3 q4; go_wp2_with fail
          go_roundg (n - b2)
          case measure => have := HGk.out; have := HB2.out; have := HBn.out; have := HBs.out; omega
          case rel => exact ⟨b2, l4, rfl, by go_num, by have := HB2.out; have := HBs.out; have := HBn.out; have := HNn.out; show _ ∧ _; omega, HP4, HR4, HK4⟩
        · have hmf : decide (m < n) = false := decide_eq_false hmn
          clear hmn; go_wp2_with fail
          go_roundg (n - b2)
          case measure => have := HGk.out; have := HB2.out; have := HBn.out; have := HBs.out; omega
          case rel => exact ⟨b2, l3, rfl, by go_num, by have := HB2.out; have := HBs.out; have := HBn.out; have := HNn.out; show _ ∧ _; omega, HP3, HR3, HK3⟩
set_option maxHeartbeats 1000000 in
theorem sortW_any {ps : List PartM} (g cap : Nat) (rest : List Value) (l : List Nat) (hl : l.length ≤ 100000) (hc : l.length ≤ cap) (w : World) (hr : SRow ps w g l rest) :
    Calls Try.prog 51 #[.slice (some ⟨g, 0, none⟩) l.length cap, .func (.func 52) #[] #[]] w fun e w' => SortP ps g l rest w e w' := by
  have HS : Hid (Calls Try.prog 63 #[.slice (some ⟨g, 0, none⟩) l.length cap, .int .i64 (l.length : Nat), .func (.func 52) #[] #[]] w _) := stable_any g cap rest l hl hc w hr; clear hr hl; (have hcI : (l.length : Int) ≤ (cap : Int) := by omega); clear hc
  go_enter Try.func51, Try.ntmps51
  go_wp2_with fail; refine HS.out.mono ?_; rintro _ w1 ⟨l1, q1, rfl, q3, q4⟩; (have HQ : Hid (l1.Perm l ∧ SRow ps w1 g l1 rest ∧ Kept (fun b => b ≠ g) w w1) := ⟨q1, q3, q4⟩); clear q1 q3 q4; go_wp2_with fail
  go_end0
  exact ⟨l1, HQ.out.1, rfl, HQ.out.2.1, HQ.out.2.2⟩
end Go.Proofs.Ytmahgfgndfcmpah
/- Walks: all sets of parts that can be true at one world (modlog.worldsOf). -/
namespace Go.Proofs.Ytmahgfgndfcmpah
open Go.RowKit Go.Sort

theorem infoW : ∃ i, Try.prog.info? 59 = some i ∧ i.zero = some (.agg #[.int .u64 0, .int .u64 0, .int .u64 0]) ∧ i.size = 3 ∧ i.bytes = 24 := by
  (obtain ⟨i, hi, h⟩ := Option.map_eq_some_iff.1 (show (Try.prog.info? 59).map (fun i => (i.zero, i.size, i.bytes)) = some (some (.agg #[.int .u64 0, .int .u64 0, .int .u64 0]), 3, 24) by kernel_rfl)); simp only [Prod.mk.injEq] at h; exact ⟨i, hi, h.1, h.2.1, h.2.2⟩
theorem shl_rowW (n : Nat) (h : n ≤ 10) : IntKind.u64.wrap ((2 : Int) ^ n) = ((2 ^ n : Nat) : Int) ∧ 1 ≤ 2 ^ n ∧ 2 ^ n ≤ 1024 := by
  (have h1 : 2 ^ n ≤ 2 ^ 10 := Nat.pow_le_pow_right (by omega) h); (have h2 : (2 : Int) ^ n = ((2 ^ n : Nat) : Int) := by simp); refine ⟨?_, Nat.two_pow_pos n, h1⟩; rw [h2]; (exact wraps_u64 _ (Int.natCast_nonneg _) (by exact_mod_cast Nat.lt_of_le_of_lt h1 (by decide : 2 ^ 10 < 2 ^ 62)))
theorem SRow.own {ps : List PartM} {w : World} {B cp : Nat} {ad : Option Addr} {l : List Nat} (h : w.ownsRow B 59 3 (.slice ad l.length cp) l.length (encW ps l)) (hl : l ≠ []) : ∃ g rest, ad = some ⟨g, 0, none⟩ ∧ B ≤ g ∧ SRow ps w g l rest := by
  rcases h.2 with ⟨hv, h0⟩ | ⟨g, cap', cur, hv, hB, hh, h1, h2, h3, h4⟩
  · exact absurd (List.length_eq_zero_iff.1 h0) hl
  · simp only [Value.slice.injEq, true_and] at hv
    refine ⟨g, cur.toList.drop (l.length * 3), hv.1, hB, ?_⟩; unfold SRow; rw [hh]
    congr 2
    apply Array.ext'; rw [← h4]
    simp
/-- All sets of parts that can be true at one world, up to i. -/
def whol (ps : List PartM) (i : Nat) : List Nat := (List.range i).filter (wholeB ps)
theorem whol_succ (ps : List PartM) (i : Nat) : whol ps (i + 1) = if wholeB ps i = true then whol ps i ++ [i] else whol ps i := by
  rw [whol, List.range_succ, List.filter_append, whol]; (by_cases h : wholeB ps i = true <;> simp [h])
theorem whol_len (ps : List PartM) (i : Nat) : (whol ps i).length ≤ i := by
  have := List.length_filter_le (wholeB ps) (List.range i)
  rwa [List.length_range] at this
theorem whol_ne {ps : List PartM} {fs : List Fm} (ht : TabOk ps fs) (hf : ∀ g ∈ fs, Fine g) : whol ps (2 ^ ps.length) ≠ [] := by
  (have h1 := typ_whole (N := 1) (R := fun _ _ => false) (p := fun _ _ => false) ht hf 0); (have h2 : typ ps fs 1 (fun _ _ => false) (fun _ _ => false) 0 < 2 ^ ps.length := bm_lt _ _); exact List.ne_nil_of_mem (List.mem_filter.2 ⟨List.mem_range.2 h2, h1⟩)
set_option maxRecDepth 10000 in
set_option maxHeartbeats 8000000 in
theorem worldsOf_any {ps : List PartM} {fs : List Fm} (ht : TabOk ps fs) (hf : ∀ g ∈ fs, Fine g) (hL : ps.length ≤ 10) (T : Nat → Prop) (bt : Nat) (ns : List Nat) (w : World) (htab : TabAt w T bt ps ns) :
    Calls Try.prog 34 #[.pointer (some ⟨bt, 0, none⟩)] w fun e w' => ∃ g cap l rest, e = .returned (.slice (some ⟨g, 0, none⟩) l.length cap) ∧ SRow ps w' g l rest ∧ l.Perm (whol ps (2 ^ ps.length)) ∧ l.length ≤ cap ∧ cap ≤ maxLen ∧ l.length ≤ 1024 ∧ w.heap.size ≤ g ∧ Below w.heap.size w w' := by
  (have HI : Hid (∀ h, h < 2 ^ ps.length → ∀ w', Below w.heap.size w w' → Calls Try.prog 49 #[.int .u64 (h : Nat), .pointer (some ⟨bt, 0, none⟩)] w' _) := fun h hh w' hb => wWhole_any ht (by omega) T bt ns h hh w' (htab.below hb)); (have HW : Hid (∀ h, h < 2 ^ ps.length → ∀ w', Below w.heap.size w w' → Calls Try.prog 50 #[.int .u64 (h : Nat), .pointer (some ⟨bt, 0, none⟩)] w' _) := fun h hh w' hb => worldOf_any ht (by omega) T bt ns h hh w' (htab.below hb)); have HLe : Hid (Calls Try.prog 18 #[.pointer (some ⟨bt, 0, none⟩)] w _) := plen_any w T bt ps ns htab; (have HSo : Hid (∀ (g cap : Nat) (rest : List Value) (l : List Nat), l.length ≤ 100000 → l.length ≤ cap → ∀ w, SRow ps w g l rest → Calls Try.prog 51 #[.slice (some ⟨g, 0, none⟩) l.length cap, .func (.func 52) #[] #[]] w fun e w' => SortP ps g l rest w e w') := fun g cap rest l h1 h2 w h3 => sortW_any g cap rest l h1 h2 w h3); have HNe := whol_ne ht hf; have HNe : Hid (whol ps (2 ^ ps.length) ≠ []) := HNe; obtain ⟨hsh, hM1, hM2⟩ := shl_rowW ps.length hL; obtain ⟨M, hM⟩ : ∃ M, M = 2 ^ ps.length := ⟨_, rfl⟩; rw [← hM] at hsh hM1 hM2 HI HW HNe ⊢; have HM : Hid (1 ≤ M ∧ M ≤ 1024) := ⟨hM1, hM2⟩; (have hMI : (M : Int) ≤ 1024 := by omega); have HSh : Hid (IntKind.u64.wrap ((2 : Int) ^ ps.length) = (M : Int)) := hsh; obtain ⟨L, hLe⟩ : ∃ L, L = ps.length := ⟨_, rfl⟩; rw [← hLe] at HLe HSh; (have hLI : (L : Int) ≤ 10 := by omega); have hsh := HSh.out; clear hM hM1 hM2 hLe hL htab ht hf HSh
  go_enter Try.func34, Try.ntmps34
  go_wp2_with fail; refine HLe.out.mono ?_; rintro _ w9 ⟨rfl, e9⟩
  replace e9 := e9.symm
  subst e9; go_wp2_with fail; clear hsh
  go_loopg [8, 3, 4] M (fun gg cc x y wr => ∃ i ad cp, i ≤ M ∧ gg = M - i ∧ cc = .int .u64 (i : Nat) ∧ x = .slice ad (whol ps i).length cp ∧ Hid (wr.ownsRow w.heap.size 59 3 (.slice ad (whol ps i).length cp) (whol ps i).length (encW ps (whol ps i))) ∧ Hid (Below w.heap.size w wr))
  case atStart => exact ⟨0, none, 0, by omega, by omega, rfl, rfl, ⟨rfl, Or.inl ⟨rfl, rfl⟩⟩, Below.refl _ _⟩
  case round =>
    obtain ⟨i, ad, cp, hi, hg, rfl, rfl, HOw, HB⟩ := hrel; have HGk : Hid (gk = M - i) := hg; clear hg; by_cases hlt : i < M
    · have hltI : (i : Int) < (M : Int) := by omega
      have HIl : Hid (i < M) := hlt; (have H1 : Hid (∀ w', Below w.heap.size w w' → Calls Try.prog 49 #[.int .u64 (i : Nat), .pointer (some ⟨bt, 0, none⟩)] w' _) := fun w' hb => HI.out i hlt w' hb); (have H2 : Hid (∀ w', Below w.heap.size w w' → Calls Try.prog 50 #[.int .u64 (i : Nat), .pointer (some ⟨bt, 0, none⟩)] w' _) := fun w' hb => HW.out i hlt w' hb); (have HSc : Hid (whol ps (i + 1) = if wholeB ps i = true then whol ps i ++ [i] else whol ps i) := whol_succ ps i); have HLn : Hid ((whol ps i).length ≤ i) := whol_len ps i; unfold WV at H2; generalize whol ps i = LL at *; (have hlnI : (LL.length : Int) ≤ 1024 := by have := HLn.out; have := HM.out; omega); clear hlt hi; go_wp2_with fail; refine (H1.out _ HB.out).mono ?_; rintro _ w1 ⟨rfl, hb1⟩; have HB1 : Hid (Below w.heap.size w w1) := below_join HB.out hb1; have HO1 : Hid (w1.ownsRow w.heap.size 59 3 (.slice ad LL.length cp) LL.length (encW ps LL)) := rowM_up HOw.out hb1; clear hb1; by_cases hp : wholeB ps i = true
      · rw [hp] at HSc ⊢
        obtain ⟨i0, hi0, hz0, hz1, hz2⟩ := infoW; clear hp; go_wp2_with fail; refine (H2.out _ HB1.out).mono ?_; rintro _ w2 ⟨rfl, hb2⟩; have HB2 : Hid (Below w.heap.size w w2) := below_join HB1.out hb2; have HO2 : Hid (w2.ownsRow w.heap.size 59 3 (.slice ad LL.length cp) LL.length (encW ps LL)) := rowM_up HO1.out hb2; clear hb2; obtain ⟨wa, hwa⟩ : ∃ wa, wa = bm ps.length (wnB ps i) := ⟨_, rfl⟩; obtain ⟨sa, hsa⟩ : ∃ sa, sa = bm ps.length (swB ps i) := ⟨_, rfl⟩; rw [← hwa, ← hsa]; (have HEn : Hid (encW ps LL ++ [.int .u64 (i : Nat), .int .u64 (wa : Nat), .int .u64 (sa : Nat)] = encW ps (LL ++ [i])) := by show _ = _; rw [hwa, hsa, encW_app]; rfl); clear hwa hsa
        go_wp2_with (first
          | (at_builtin
             have hsz := HB2.out.size; have hlm := HLn.out; have hnm := HM.out; have hil := HIl.out; have hown := rowM_up HO2.out ((Below.refl _ w2).alloc (Nat.le_refl _) (.cells #[.int .u64 (i : Nat), .int .u64 (wa : Nat), .int .u64 (sa : Nat)] 59 (0, 0))); (refine wpList_append_lies _ rfl _ _ 80 rfl w.heap.size 59 i0 (.agg #[.int .u64 0, .int .u64 0, .int .u64 0]) 3 24 Try.underlying80 hi0 hz0 hz1 hz2 rfl (by decide) (.slice ad LL.length cp) LL.length (encW ps LL) rfl hown ⟨w2.heap.size, 0, none⟩ 1 1 [.int .u64 (i : Nat), .int .u64 (wa : Nat), .int .u64 (sa : Nat)] rfl rfl ?_ ?_ (by omega) (by unfold maxLen; omega) (by omega) (by simp; omega) _ rfl ?_)
             · intro j u hu
               rw [add_none, Nat.zero_add, blk_cell (blk_new w2 _)]; simpa using hu
             · intro u hu
               simp at hu
               rcases hu with rfl | rfl | rfl <;> rfl
             intro g3 cp3 w3 hown3 hgrow hat hlt3; have hgrow' : (w2.alloc (.cells #[.int .u64 (i : Nat), .int .u64 (wa : Nat), .int .u64 (sa : Nat)] 59 (0, 0))).grownBy w3 (Value.slice ad LL.length cp).ownBlock := hgrow; have hlt' := HO2.out.lt; (have HB3 : Hid (Below w.heap.size w w3) := ((HB2.out.alloc hsz _).grown hgrow' (by simp; omega) fun k hk => by have := (hlt' k hk).1; omega)); have HOw3 : Hid (w3.ownsRow w.heap.size 59 3 (.slice (some ⟨g3, 0, none⟩) (LL.length + 1) cp3) (LL.length + 1) (encW ps LL ++ [.int .u64 (i : Nat), .int .u64 (wa : Nat), .int .u64 (sa : Nat)])) := hown3
             clear hgrow hgrow' hat hown3 hown hlt' hsz hlt3 hi0 hz0 hz1 hz2 hlm hnm hil)
          | fail)
        (have HSc9 : whol ps (i + 1) = LL ++ [i] := by rw [HSc.out]; rfl); (have hl9 : (whol ps (i + 1)).length = LL.length + 1 := by rw [HSc9]; simp)
        go_roundg (M - (i + 1))
        case measure => have := HGk.out; have := HIl.out; omega
        case rel =>
          (refine ⟨i + 1, some ⟨g3, 0, none⟩, cp3, HIl.out, rfl, by go_num, by rw [hl9], ?_, HB3⟩); rw [hl9, HSc9, ← HEn.out]; exact HOw3
      · have hpf : wholeB ps i = false := by simpa using hp
        rw [hpf] at HSc ⊢; clear hp hpf; go_wp2_with fail; (have HSc9 : whol ps (i + 1) = LL := by rw [HSc.out]; rfl)
        go_roundg (M - (i + 1))
        case measure => have := HGk.out; have := HIl.out; omega
        case rel => exact ⟨i + 1, ad, cp, HIl.out, rfl, by go_num, by rw [HSc9], by rw [HSc9]; exact HO1, HB1⟩
    · have hii : M = i := by omega
      subst hii; (have hge : ¬ (M : Int) < (M : Int) := by omega); have hln := whol_len ps M; obtain ⟨hcp, hcx⟩ := rowM_caps HOw.out; obtain ⟨g, rest, rfl, hgB, hsr⟩ := SRow.own HOw.out HNe.out; generalize hLL : whol ps M = LL at *; (have HLL : Hid (LL.length ≤ cp ∧ cp ≤ maxLen ∧ LL.length ≤ 1024 ∧ w.heap.size ≤ g) := ⟨hcp, hcx, by have := HM.out; omega, hgB⟩); have HSr : Hid (SRow ps wr g LL rest) := hsr; clear hlt hi hcp hcx hgB hsr hln; go_wp2_with fail; (refine (HSo.out g cp rest LL (by have := HLL.out; omega) HLL.out.1 wr HSr.out).mono ?_); rintro _ w1 ⟨l1, q1, rfl, q3, q4⟩; (have HQ : Hid (l1.Perm LL ∧ SRow ps w1 g l1 rest ∧ Kept (fun b => b ≠ g) wr w1) := ⟨q1, q3, q4⟩); clear q1 q3 q4; go_wp2_with fail; go_ret; have hlen := HQ.out.1.length_eq; have hll := HLL.out; (refine ⟨g, cp, l1, rest, by rw [hlen]; rfl, HQ.out.2.1, by rw [hLL]; exact HQ.out.1, by omega, hll.2.1, by omega, hll.2.2.2, ?_⟩); have hk := HQ.out.2.2; have hB := HB.out; (exact ⟨hk.os.trans hB.os, hk.tape.trans hB.tape, hk.output.trans hB.output, Nat.le_trans hB.size hk.size, fun b hb => (hk.block b (Nat.lt_of_lt_of_le hb hB.size) (by omega)).trans (hB.block b hb)⟩)
end Go.Proofs.Ytmahgfgndfcmpah
