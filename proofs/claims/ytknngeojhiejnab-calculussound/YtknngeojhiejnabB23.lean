/- Texts of one proof, one behind the other: CH3, CH4, CH5, CH6. -/
import Derived.Test.YtknngeojhiejnabB22
/- A sequent as a formula, plain; walks: Tautology, InAll. -/
namespace Go.Proofs.Ytknngeojhiejnab
open Go.RowKit

theorem allF_cat (l : List Fm) (f : Fm) : allF (l ++ [f]) = .mk 5 ⟨#[]⟩ [allF l, f] := by unfold allF; simp
theorem someF_cat (l : List Fm) (f : Fm) : someF (l ++ [f]) = .mk 6 ⟨#[]⟩ [someF l, f] := by unfold someF; simp
theorem list_rev {P : List Fm → Prop} (h0 : P []) (h1 : ∀ l f, P l → P (l ++ [f])) (l : List Fm) : P l := by
  have : ∀ n (l : List Fm), l.length = n → P l := fun n => by
    induction n with
    | zero => intro l hl; rw [List.length_eq_zero_iff.1 hl]; exact h0
    | succ n ih =>
      intro l hl
      have hne : l ≠ [] := fun e => by rw [e] at hl; simp at hl
      rw [← List.dropLast_concat_getLast hne]
      exact h1 _ _ (ih _ (by rw [List.length_dropLast]; omega))
  exact this _ l rfl
theorem allF_fine (l : List Fm) : (∀ f ∈ l, Fine f) → Fine (allF l) := by
  refine list_rev (P := fun l => (∀ f ∈ l, Fine f) → Fine (allF l)) (fun _ => fine_leaf 2 (Or.inl rfl)) (fun l f ih h => ?_) l
  rw [allF_cat]
  exact fine_two 5 _ _ (Or.inl rfl) (ih fun g hg => h g (List.mem_append_left _ hg)) (h f (by simp))
theorem someF_fine (l : List Fm) : (∀ f ∈ l, Fine f) → Fine (someF l) := by
  refine list_rev (P := fun l => (∀ f ∈ l, Fine f) → Fine (someF l)) (fun _ => fine_leaf 3 (Or.inr rfl)) (fun l f ih h => ?_) l
  rw [someF_cat]
  exact fine_two 6 _ _ (Or.inr (Or.inl rfl)) (ih fun g hg => h g (List.mem_append_left _ hg)) (h f (by simp))
theorem asF_fine {l r : List Fm} (hl : ∀ f ∈ l, Fine f) (hr : ∀ f ∈ r, Fine f) : Fine (asF l r) := fine_two 7 _ _ (Or.inr (Or.inr rfl)) (allF_fine l hl) (someF_fine r hr)
theorem allF_tv (p : List UInt8 → Bool) (l : List Fm) : tv p (allF l) = l.all (tv p) := by
  refine list_rev (P := fun l => tv p (allF l) = l.all (tv p)) (by unfold allF; exact tv_true p) (fun l f ih => ?_) l
  rw [allF_cat, tv_and, ih, List.all_append]
  simp
theorem someF_tv (p : List UInt8 → Bool) (l : List Fm) : tv p (someF l) = l.any (tv p) := by
  refine list_rev (P := fun l => tv p (someF l) = l.any (tv p)) (by unfold someF; exact tv_false p) (fun l f ih => ?_) l
  rw [someF_cat, tv_or, ih, List.any_append]
  simp
theorem asF_tv {l r : List Fm} (h : Valid l r) (p : List UInt8 → Bool) : tv p (asF l r) = true := by
  unfold asF
  rw [tv_then, allF_tv, someF_tv, Bool.or_eq_true]
  by_cases ha : l.all (tv p) = true
  · obtain ⟨g, hg, ht⟩ := h p (List.all_eq_true.1 ha)
    exact Or.inr (List.any_eq_true.2 ⟨g, hg, ht⟩)
  · simp only [Bool.not_eq_true] at ha
    rw [ha]
    exact Or.inl rfl
theorem allF_size (l : List Fm) : (∀ f ∈ l, f.size ≤ 200) → (allF l).size ≤ 1 + l.length * 201 := by
  refine list_rev (P := fun l => (∀ f ∈ l, f.size ≤ 200) → (allF l).size ≤ 1 + l.length * 201) (fun _ => by simp [allF, Fm.size, Fm.sizes]) (fun l f ih h => ?_) l
  have h1 := ih fun g hg => h g (List.mem_append_left _ hg)
  have h2 := h f (by simp)
  rw [allF_cat, Fm.size, Fm.sizes, Fm.sizes, Fm.sizes, List.length_append]
  simp
  omega
theorem someF_size (l : List Fm) : (∀ f ∈ l, f.size ≤ 200) → (someF l).size ≤ 1 + l.length * 201 := by
  refine list_rev (P := fun l => (∀ f ∈ l, f.size ≤ 200) → (someF l).size ≤ 1 + l.length * 201) (fun _ => by simp [someF, Fm.size, Fm.sizes]) (fun l f ih h => ?_) l
  have h1 := ih fun g hg => h g (List.mem_append_left _ hg)
  have h2 := h f (by simp)
  rw [someF_cat, Fm.size, Fm.sizes, Fm.sizes, Fm.sizes, List.length_append]
  simp
  omega
theorem asF_size {l r : List Fm} (hl : ∀ f ∈ l, f.size ≤ 200) (hr : ∀ f ∈ r, f.size ≤ 200) (h : l.length + r.length ≤ 60) : (asF l r).size ≤ 20000 := by
  have h1 := allF_size l hl
  have h2 := someF_size r hr
  unfold asF
  rw [Fm.size, Fm.sizes, Fm.sizes, Fm.sizes]
  omega

theorem firstBad_fine {l : List Fm} {i : Nat} (h : (firstBad l i).1 = 0) : ∀ f ∈ l, f.pcode.1 = 0 := by
  induction l generalizing i with
  | nil => intro f hf; cases hf
  | cons x l ih =>
    rw [firstBad] at h
    by_cases hx : x.pcode.1 = 0
    · rw [if_pos hx] at h
      intro f hf
      rcases List.mem_cons.1 hf with rfl | hf
      · exact hx
      · exact ih h f hf
    · rw [if_neg hx] at h
      exact absurd h hx
theorem seqCode_fine {l r : List Fm} (h : (seqCode l r).1 = 0) : l.length + r.length ≤ 60 ∧ (∀ f ∈ l, f.pcode.1 = 0) ∧ ∀ f ∈ r, f.pcode.1 = 0 := by
  unfold seqCode at h
  by_cases h60 : 60 < l.length + r.length
  · rw [if_pos h60] at h; cases h
  · rw [if_neg h60] at h
    have := firstBad_fine h
    exact ⟨by omega, fun f hf => this f (List.mem_append_left _ hf), fun f hf => this f (List.mem_append_right _ hf)⟩
theorem pcode_fine {f : Fm} (h : f.pcode.1 = 0) : Fine f ∧ f.size ≤ 200 := by
  obtain ⟨s, hs⟩ := (pcode_ok h).1
  exact ⟨fine_of_chk _ 0 s hs, chk_size hs⟩

theorem shl_row10 (N : Nat) (h : N ≤ 10) : wrap64 ((2 : Int) ^ N) = ((2 ^ N : Nat) : Int) ∧ 1 ≤ 2 ^ N ∧ 2 ^ N ≤ 1024 := by
  have : N = 0 ∨ N = 1 ∨ N = 2 ∨ N = 3 ∨ N = 4 ∨ N = 5 ∨ N = 6 ∨ N = 7 ∨ N = 8 ∨ N = 9 ∨ N = 10 := by omega
  rcases this with rfl | rfl | rfl | rfl | rfl | rfl | rfl | rfl | rfl | rfl | rfl <;> exact ⟨by unfold wrap64; decide, by decide, by decide⟩

set_option maxRecDepth 10000 in
set_option maxHeartbeats 4000000 in
theorem taut_any (f : Fm) (hf : Fine f) (hs : f.size ≤ 20000) (hn : (nmsU f).length ≤ 10) (ht : ∀ p, tv p f = true) (v : Value) (w : World) (hv : Rep w (fun _ => True) f v) :
    Calls Try.prog 56 #[v] w fun e w' => e = .returned (.bool true) ∧ Below w.heap.size w w' := by
  have hni := fun v (w : World) h => namesIn_big f hs v w h
  have htr := fun r v u (w : World) h h' => trueR_any (rowN r (nmsU f) 0) f v u w hf h h'
  have hrw := fun r (hr : r ≤ 100000) u (w : World) h => row_any r hr (nmsU f) (by omega) u w h
  simp only [ht] at htr
  generalize nmsU f = U at *
  obtain ⟨hw, hM1, hM2⟩ := shl_row10 U.length hn
  obtain ⟨k, n, ks⟩ := f
  obtain ⟨sl, cap, rfl⟩ := slice_shape hv
  have HV : Hid (Rep w (fun _ => True) (.mk k n ks) _) := hv
  have HNI : Hid (∀ v w, FL w v [.mk k n ks] → Calls Try.prog 19 #[v] w _) := hni
  have HTR : Hid (∀ r v u w, Rep w (fun _ => True) (.mk k n ks) v → SL w u (rowN r U 0) → Calls Try.prog 20 #[v, u] w _) := htr
  have HRW : Hid (∀ r, r ≤ 100000 → ∀ u w, SL w u U → Calls Try.prog 21 #[u, .int .i64 (r : Nat)] w _) := hrw
  have hUI : (U.length : Int) ≤ 10 := by omega
  obtain ⟨M, hM⟩ : ∃ M, M = 2 ^ U.length := ⟨_, rfl⟩
  rw [← hM] at hw hM1 hM2
  clear hni htr hrw hv hM hf hs ht
  have HW : Hid (wrap64 ((2 : Int) ^ U.length) = ((M : Nat) : Int)) := hw
  clear hw
  go_enter Try.func56, Try.ntmps56
  go_wp2_with fail
  refine (HNI.out _ _ (FL.sing (blk_two w _ _) ((HV.out.more _).more _))).mono ?_
  rintro e w1 ⟨x, rfl, hx, hb1⟩
  have B1 := below_join (below_more (below_more (Below.refl _ w) _) _) hb1
  have HQ : Hid (w1.heap[w.heap.size]? = some _) := below_keep hb1 (alloc_keep (blk_new w _) _)
  have HX : Hid (SL w1 x U) := hx.sl
  obtain ⟨adU, cpU, rfl, -⟩ := hx
  clear hb1
  go_wp2_with fail
  go_loopg [4] M (fun g cc wr => ∃ j, j ≤ M ∧ g = M - j ∧ cc = .int .i64 (j : Nat) ∧ Hid (Below w1.heap.size w1 wr))
  case atStart => exact ⟨0, by omega, by omega, rfl, Below.refl _ _⟩
  case round =>
    obtain ⟨j, hj, hg, rfl, HBr⟩ := hrel
    have HG : Hid (gk = M - j) := hg
    clear hg
    obtain ⟨q0, q1, q2, -⟩ := blk3 (below_keep HBr.out HQ.out)
    have hw := HW.out
    by_cases hlt : j < M
    · have hltI : (j : Int) < (M : Int) := by omega
      have hj5 : j ≤ 100000 := by omega
      go_wp2_with fail
      go_region_held3 (fun w' => w'.cell? ⟨w.heap.size, 0, none⟩ = some (.int .i64 k) ∧ w'.cell? ⟨w.heap.size, 1, none⟩ = some (.string n) ∧ w'.cell? ⟨w.heap.size, 2, none⟩ = some (.slice sl ks.length cap)) (go_keep)
        (first
         | (go_at_call 21
            refine (HRW.out j hj5 _ _ ((HX.out.up HBr.out).up (Below.refl _ _).drew)).mono ?_
            rintro e w2 ⟨y, rfl, hy, hb2⟩
            have HB2 : Hid (Below w1.heap.size w1 w2) := below_join HBr.out.drew hb2
            have HY : Hid (SL w2 y (rowN j U 0)) := hy.sl
            obtain ⟨g0, g1, g2, -⟩ := blk3 (below_keep HB2.out HQ.out)
            obtain ⟨ady, cpy, rfl, -⟩ := hy
            clear hb2)
         | (go_at_call 20
            refine (HTR.out j _ _ _ ((HV.out.up B1).up HB2.out) HY.out).mono ?_
            rintro e w3 ⟨rfl, hb3⟩
            have HB3 : Hid (Below w1.heap.size w1 w3) := below_join HB2.out hb3
            obtain ⟨i0, i1, i2, -⟩ := blk3 (below_keep HB3.out HQ.out)
            clear hb3)
         | fail)
      all_goals
        go_wp2_with fail
        go_roundg (M - (j + 1))
        case measure => have := HG.out; omega
        case rel => exact ⟨j + 1, by omega, rfl, by go_num, HB3⟩
    · have hge : ¬ (j : Int) < (M : Int) := by omega
      go_wp2_with fail
      go_ret
      exact ⟨rfl, below_join B1 HBr.out⟩

set_option maxHeartbeats 2000000 in
theorem inAll_any (l r : List Fm) (hl4 : l.length ≤ 400) (hr4 : r.length ≤ 400) (hf : Fine (asF l r)) (hs : (asF l r).size ≤ 20000) (hn : (nmsU (asF l r)).length ≤ 10) (ht : ∀ p, tv p (asF l r) = true) (v u : Value) (w : World) (hv : FL w v l) (hu : FL w u r) :
    Calls Try.prog 32 #[.agg #[v, u]] w fun e w' => e = .returned (.bool true) ∧ Below w.heap.size w w' := by
  have B0 := below_more (Below.refl _ w) (.cells #[v, u] 59 (0, 0))
  have has := as_any l r hl4 hr4 v u _ (hv.up B0) (hu.up B0)
  have HAS : Hid (Calls Try.prog 31 _ _ _) := has
  have HT : Hid (∀ v w, Rep w (fun _ => True) (asF l r) v → Calls Try.prog 56 #[v] w _) := fun v w h => taut_any (asF l r) hf hs hn ht v w h
  obtain ⟨adl, cpl, rfl, -⟩ := hv
  obtain ⟨adr, cpr, rfl, -⟩ := hu
  clear has hf hs hn ht
  go_enter Try.func32, Try.ntmps32
  go_wp2_with fail
  refine HAS.out.mono ?_
  rintro e w1 ⟨x, rfl, hx, hb1⟩
  have B1 := below_join B0 hb1
  have HX : Hid (Rep w1 (fun _ => True) (asF l r) x) := hx
  clear hx
  go_wp2_with fail
  refine (HT.out _ _ HX.out).mono ?_
  rintro e w2 ⟨rfl, hb2⟩
  have B2 := below_join B1 hb2
  go_wp2_with fail
  go_ret
  exact ⟨rfl, B2⟩
end Go.Proofs.Ytknngeojhiejnab
/- Walks: the proof of p | ~p; calculusBegun. -/
namespace Go.Proofs.Ytknngeojhiejnab
open Go.RowKit

def mP : Fm := .mk 1 ⟨#[112]⟩ []
def mN : Fm := .mk 4 ⟨#[]⟩ [mP]
def mO : Fm := .mk 6 ⟨#[]⟩ [mP, mN]
def midA : Pf := .mk ⟨#[97, 120]⟩ mP [mP] [mP] []
def midN : Pf := .mk ⟨#[110, 111, 116, 45, 114]⟩ mN [] [mP, mN] [midA]
def midO : Pf := .mk ⟨#[111, 114, 45, 114]⟩ mO [] [mO] [midN]

theorem blk_at {X : World} {o : Obj} {n : Nat} (h : X.heap.size = n) : (X.alloc o).heap[n]? = some o := by rw [← h]; exact blk_new X o
theorem seven (X : World) (a0 a1 a2 a3 a4 a5 a6 : Obj) : (∀ b, b < X.heap.size → (((((((X.alloc a0).alloc a1).alloc a2).alloc a3).alloc a4).alloc a5).alloc a6).heap[b]? = X.heap[b]?) ∧ (((((((X.alloc a0).alloc a1).alloc a2).alloc a3).alloc a4).alloc a5).alloc a6).heap[X.heap.size]? = some a0 ∧ (((((((X.alloc a0).alloc a1).alloc a2).alloc a3).alloc a4).alloc a5).alloc a6).heap[X.heap.size + 1]? = some a1 ∧ (((((((X.alloc a0).alloc a1).alloc a2).alloc a3).alloc a4).alloc a5).alloc a6).heap[X.heap.size + 1 + 1]? = some a2 ∧ (((((((X.alloc a0).alloc a1).alloc a2).alloc a3).alloc a4).alloc a5).alloc a6).heap[X.heap.size + 1 + 1 + 1]? = some a3 ∧ (((((((X.alloc a0).alloc a1).alloc a2).alloc a3).alloc a4).alloc a5).alloc a6).heap[X.heap.size + 1 + 1 + 1 + 1]? = some a4 ∧ (((((((X.alloc a0).alloc a1).alloc a2).alloc a3).alloc a4).alloc a5).alloc a6).heap[X.heap.size + 1 + 1 + 1 + 1 + 1]? = some a5 ∧ (((((((X.alloc a0).alloc a1).alloc a2).alloc a3).alloc a4).alloc a5).alloc a6).heap[X.heap.size + 1 + 1 + 1 + 1 + 1 + 1]? = some a6 := by
  have s1 : (X.alloc a0).heap.size = X.heap.size + 1 := by simp
  have s2 : ((X.alloc a0).alloc a1).heap.size = X.heap.size + 1 + 1 := by simp
  have s3 : (((X.alloc a0).alloc a1).alloc a2).heap.size = X.heap.size + 1 + 1 + 1 := by simp
  have s4 : ((((X.alloc a0).alloc a1).alloc a2).alloc a3).heap.size = X.heap.size + 1 + 1 + 1 + 1 := by simp
  have s5 : (((((X.alloc a0).alloc a1).alloc a2).alloc a3).alloc a4).heap.size = X.heap.size + 1 + 1 + 1 + 1 + 1 := by simp
  have s6 : ((((((X.alloc a0).alloc a1).alloc a2).alloc a3).alloc a4).alloc a5).heap.size = X.heap.size + 1 + 1 + 1 + 1 + 1 + 1 := by simp
  refine ⟨fun b hb => ?_, ?_, ?_, ?_, ?_, ?_, ?_, ?_⟩
  · rw [Below.heap_alloc _ _ _ (by omega), Below.heap_alloc _ _ _ (by omega), Below.heap_alloc _ _ _ (by omega), Below.heap_alloc _ _ _ (by omega), Below.heap_alloc _ _ _ (by omega), Below.heap_alloc _ _ _ (by omega), Below.heap_alloc _ _ _ hb]
  · exact alloc_keep (alloc_keep (alloc_keep (alloc_keep (alloc_keep (alloc_keep (blk_new X a0) _) _) _) _) _) _
  · exact alloc_keep (alloc_keep (alloc_keep (alloc_keep (alloc_keep (blk_at s1) _) _) _) _) _
  · exact alloc_keep (alloc_keep (alloc_keep (alloc_keep (blk_at s2) _) _) _) _
  · exact alloc_keep (alloc_keep (alloc_keep (blk_at s3) _) _) _
  · exact alloc_keep (alloc_keep (blk_at s4) _) _
  · exact alloc_keep (blk_at s5) _
  · exact blk_at s6

set_option maxRecDepth 10000 in
set_option maxHeartbeats 8000000 in
theorem middle_any (w : World) : Calls Try.prog 54 #[] w fun e w' => ∃ x, e = .returned x ∧ PRep w' midO x ∧ Below w.heap.size w w' := by
  go_enter Try.func54, Try.ntmps54
  go_wp2_with fail
  refine (named_any _ _).mono ?_
  rintro e w1 ⟨rfl, hb1⟩
  have p1 := below_keep hb1 (blk_new w (.cells #[.string ⟨#[]⟩, .int .i64 0, .string ⟨#[]⟩, .slice none 0 0, .slice none 0 0, .slice none 0 0, .slice none 0 0] 62 (0, 0)))
  have P1 : Hid (w1.heap[w.heap.size]? = some _) := p1
  have HB1 : Hid (Below w.heap.size w w1) := below_join (below_more (Below.refl _ w) _) hb1
  have z1 := lt_of_block p1
  clear hb1 p1
  go_wp2_with fail
  refine (ofP_any (fun b => b ≠ w.heap.size) 4 mP _ _ (fun b hb => by simp at hb; omega) (Rep.leaf (by decide))).mono ?_
  rintro e w2 ⟨xn, rfl, hn, hb2⟩
  obtain ⟨sn, cn, rfl⟩ := slice_shape hn
  have HN : Hid (Rep w2 (fun b => b ≠ w.heap.size) mN _) := hn
  have HB2 : Hid (Below w.heap.size w w2) := below_join (below_more HB1.out _) hb2
  have P2 : Hid (w2.heap[w.heap.size]? = some _) := below_keep hb2 (alloc_keep P1.out _)
  have Q1 : Hid (w2.heap[w1.heap.size]? = some (.cells #[.int .i64 1, .string ⟨#[112]⟩, .slice none 0 0] 37 (0, 0))) := below_keep hb2 (blk_new w1 _)
  have z2 := lt_of_block Q1.out
  obtain ⟨a0, a1, a2, -⟩ := blk3 Q1.out
  have d1 : ¬ w1.heap.size = w2.heap.size := by omega
  clear hb2 hn
  go_wp2_with fail
  refine (bothP_any (fun b => b ≠ w.heap.size) 6 mP mN _ _ _ (fun b hb => by simp at hb; omega) (Rep.leaf (by decide)) (HN.out.up' (below_more (Below.refl _ w2) _))).mono ?_
  rintro e w3 ⟨xo, rfl, ho, hb3⟩
  obtain ⟨so, co, rfl⟩ := slice_shape ho
  have HO : Hid (Rep w3 (fun b => b ≠ w.heap.size) mO _) := ho
  have HN3 : Hid (Rep w3 (fun b => b ≠ w.heap.size) mN _) := (HN.out.up' (below_more (Below.refl _ w2) _)).up' hb3
  have HB3 : Hid (Below w.heap.size w w3) := below_join (below_more HB2.out _) hb3
  have P3 : Hid (w3.heap[w.heap.size]? = some _) := below_keep hb3 (alloc_keep P2.out _)
  have Q2 : Hid (w3.heap[w2.heap.size]? = some _) := below_keep hb3 (blk_new w2 _)
  have R2 : Hid (w3.heap[w1.heap.size]? = some _) := below_keep hb3 (alloc_keep Q1.out _)
  have z3 := lt_of_block Q2.out
  have z4 := lt_of_block R2.out
  have z5 := lt_of_block P3.out
  clear a0 a1 a2 hb3 ho
  obtain ⟨a0, a1, a2, -⟩ := blk3 R2.out
  obtain ⟨b0, b1, b2, -⟩ := blk3 Q2.out
  obtain ⟨j0, j1, j2, j3, j4, j5, j6⟩ := blk7 P3.out
  obtain ⟨m0, m1, m2, m3, m4, m5, m6⟩ := blk7f P3.out
  have la0 : w.heap.size < w3.heap.size := by omega
  have na0 : ¬ w.heap.size = w3.heap.size := by omega
  have la1 : w.heap.size < w3.heap.size + 1 := by omega
  have na1 : ¬ w.heap.size = w3.heap.size + 1 := by omega
  have la2 : w.heap.size < w3.heap.size + 1 + 1 := by omega
  have na2 : ¬ w.heap.size = w3.heap.size + 1 + 1 := by omega
  have la3 : w.heap.size < w3.heap.size + 1 + 1 + 1 := by omega
  have na3 : ¬ w.heap.size = w3.heap.size + 1 + 1 + 1 := by omega
  have la4 : w.heap.size < w3.heap.size + 1 + 1 + 1 + 1 := by omega
  have na4 : ¬ w.heap.size = w3.heap.size + 1 + 1 + 1 + 1 := by omega
  have la5 : w.heap.size < w3.heap.size + 1 + 1 + 1 + 1 + 1 := by omega
  have na5 : ¬ w.heap.size = w3.heap.size + 1 + 1 + 1 + 1 + 1 := by omega
  have la6 : w.heap.size < w3.heap.size + 1 + 1 + 1 + 1 + 1 + 1 := by omega
  have na6 : ¬ w.heap.size = w3.heap.size + 1 + 1 + 1 + 1 + 1 + 1 := by omega
  have la7 : w.heap.size < w3.heap.size + 1 + 1 + 1 + 1 + 1 + 1 + 1 := by omega
  have na7 : ¬ w.heap.size = w3.heap.size + 1 + 1 + 1 + 1 + 1 + 1 + 1 := by omega
  have lb0 : w1.heap.size < w3.heap.size := by omega
  have nb0 : ¬ w1.heap.size = w3.heap.size := by omega
  have lb1 : w1.heap.size < w3.heap.size + 1 := by omega
  have nb1 : ¬ w1.heap.size = w3.heap.size + 1 := by omega
  have lb2 : w1.heap.size < w3.heap.size + 1 + 1 := by omega
  have nb2 : ¬ w1.heap.size = w3.heap.size + 1 + 1 := by omega
  have lb3 : w1.heap.size < w3.heap.size + 1 + 1 + 1 := by omega
  have nb3 : ¬ w1.heap.size = w3.heap.size + 1 + 1 + 1 := by omega
  have lb4 : w1.heap.size < w3.heap.size + 1 + 1 + 1 + 1 := by omega
  have nb4 : ¬ w1.heap.size = w3.heap.size + 1 + 1 + 1 + 1 := by omega
  have lb5 : w1.heap.size < w3.heap.size + 1 + 1 + 1 + 1 + 1 := by omega
  have nb5 : ¬ w1.heap.size = w3.heap.size + 1 + 1 + 1 + 1 + 1 := by omega
  have lb6 : w1.heap.size < w3.heap.size + 1 + 1 + 1 + 1 + 1 + 1 := by omega
  have nb6 : ¬ w1.heap.size = w3.heap.size + 1 + 1 + 1 + 1 + 1 + 1 := by omega
  have lb7 : w1.heap.size < w3.heap.size + 1 + 1 + 1 + 1 + 1 + 1 + 1 := by omega
  have nb7 : ¬ w1.heap.size = w3.heap.size + 1 + 1 + 1 + 1 + 1 + 1 + 1 := by omega
  have lc0 : w2.heap.size < w3.heap.size := by omega
  have nc0 : ¬ w2.heap.size = w3.heap.size := by omega
  have lc1 : w2.heap.size < w3.heap.size + 1 := by omega
  have nc1 : ¬ w2.heap.size = w3.heap.size + 1 := by omega
  have lc2 : w2.heap.size < w3.heap.size + 1 + 1 := by omega
  have nc2 : ¬ w2.heap.size = w3.heap.size + 1 + 1 := by omega
  have lc3 : w2.heap.size < w3.heap.size + 1 + 1 + 1 := by omega
  have nc3 : ¬ w2.heap.size = w3.heap.size + 1 + 1 + 1 := by omega
  have lc4 : w2.heap.size < w3.heap.size + 1 + 1 + 1 + 1 := by omega
  have nc4 : ¬ w2.heap.size = w3.heap.size + 1 + 1 + 1 + 1 := by omega
  have lc5 : w2.heap.size < w3.heap.size + 1 + 1 + 1 + 1 + 1 := by omega
  have nc5 : ¬ w2.heap.size = w3.heap.size + 1 + 1 + 1 + 1 + 1 := by omega
  have lc6 : w2.heap.size < w3.heap.size + 1 + 1 + 1 + 1 + 1 + 1 := by omega
  have nc6 : ¬ w2.heap.size = w3.heap.size + 1 + 1 + 1 + 1 + 1 + 1 := by omega
  have lc7 : w2.heap.size < w3.heap.size + 1 + 1 + 1 + 1 + 1 + 1 + 1 := by omega
  have nc7 : ¬ w2.heap.size = w3.heap.size + 1 + 1 + 1 + 1 + 1 + 1 + 1 := by omega
  have ld1 : w3.heap.size < w3.heap.size + 1 := by omega
  have nd1 : ¬ w3.heap.size = w3.heap.size + 1 := by omega
  have ld2 : w3.heap.size < w3.heap.size + 1 + 1 := by omega
  have nd2 : ¬ w3.heap.size = w3.heap.size + 1 + 1 := by omega
  have ld3 : w3.heap.size < w3.heap.size + 1 + 1 + 1 := by omega
  have nd3 : ¬ w3.heap.size = w3.heap.size + 1 + 1 + 1 := by omega
  have ld4 : w3.heap.size < w3.heap.size + 1 + 1 + 1 + 1 := by omega
  have nd4 : ¬ w3.heap.size = w3.heap.size + 1 + 1 + 1 + 1 := by omega
  have ld5 : w3.heap.size < w3.heap.size + 1 + 1 + 1 + 1 + 1 := by omega
  have nd5 : ¬ w3.heap.size = w3.heap.size + 1 + 1 + 1 + 1 + 1 := by omega
  have ld6 : w3.heap.size < w3.heap.size + 1 + 1 + 1 + 1 + 1 + 1 := by omega
  have nd6 : ¬ w3.heap.size = w3.heap.size + 1 + 1 + 1 + 1 + 1 + 1 := by omega
  have ld7 : w3.heap.size < w3.heap.size + 1 + 1 + 1 + 1 + 1 + 1 + 1 := by omega
  have nd7 : ¬ w3.heap.size = w3.heap.size + 1 + 1 + 1 + 1 + 1 + 1 + 1 := by omega
  go_wp2_with fail
  obtain ⟨X, hX⟩ : ∃ X, X = put7 w3 w.heap.size (.string ⟨#[111, 114, 45, 114]⟩) (.int .i64 6) (.string ⟨#[]⟩) (.slice so 2 co) (.slice none 0 0) (.slice (some ⟨w3.heap.size + 1, 0, none⟩) 1 1) (.slice (some ⟨w3.heap.size + 1 + 1 + 1 + 1 + 1 + 1, 0, none⟩) 1 1) := ⟨_, rfl⟩
  have hXs : X.heap.size = w3.heap.size := by rw [hX]; simp [put7, World.setCell]
  have hXp : X.heap[w.heap.size]? = some (.cells #[.string ⟨#[111, 114, 45, 114]⟩, .int .i64 6, .string ⟨#[]⟩, .slice so 2 co, .slice none 0 0, .slice (some ⟨w3.heap.size + 1, 0, none⟩) 1 1, .slice (some ⟨w3.heap.size + 1 + 1 + 1 + 1 + 1 + 1, 0, none⟩) 1 1] 62 (0, 0)) := by rw [hX]; exact put7_blk P3.out _ _ _ _ _ _ _
  have hXo : ∀ b, b ≠ w.heap.size → X.heap[b]? = w3.heap[b]? := fun b hb => by rw [hX]; exact put7_other hb _ _ _ _ _ _ _
  have hXb : Below w.heap.size w X := by rw [hX]; exact put7_below HB3.out (Nat.le_refl _) _ _ _ _ _ _ _
  show bodyPost _ _ _ _ _ (((((((((put7 w3 w.heap.size _ _ _ _ _ _ _).alloc _).alloc _).alloc _).alloc _).alloc _).alloc _).alloc _))
  rw [← hX]
  obtain ⟨g0, f0, f1, f2, f3, f4, f5, f6⟩ := seven X (.cells #[.int .i64 6, .string ⟨#[]⟩, .slice so 2 co] 37 (0, 0)) (.cells #[.int .i64 6, .string ⟨#[]⟩, .slice so 2 co] 37 (0, 0)) (.cells #[.int .i64 1, .string ⟨#[112]⟩, .slice none 0 0, .int .i64 4, .string ⟨#[]⟩, .slice sn 1 cn] 37 (0, 0)) (.cells #[.int .i64 1, .string ⟨#[112]⟩, .slice none 0 0] 37 (0, 0)) (.cells #[.int .i64 1, .string ⟨#[112]⟩, .slice none 0 0] 37 (0, 0)) (.cells #[.string ⟨#[97, 120]⟩, .int .i64 1, .string ⟨#[112]⟩, .slice none 0 0, .slice (some ⟨w3.heap.size + 1 + 1 + 1, 0, none⟩) 1 1, .slice (some ⟨w3.heap.size + 1 + 1 + 1 + 1, 0, none⟩) 1 1, .slice none 0 0] 62 (0, 0)) (.cells #[.string ⟨#[110, 111, 116, 45, 114]⟩, .int .i64 4, .string ⟨#[]⟩, .slice sn 1 cn, .slice none 0 0, .slice (some ⟨w3.heap.size + 1 + 1, 0, none⟩) 2 2, .slice (some ⟨w3.heap.size + 1 + 1 + 1 + 1 + 1, 0, none⟩) 1 1] 62 (0, 0))
  have hBF := below_more (below_more (below_more (below_more (below_more (below_more (below_more hXb (.cells #[.int .i64 6, .string ⟨#[]⟩, .slice so 2 co] 37 (0, 0))) (.cells #[.int .i64 6, .string ⟨#[]⟩, .slice so 2 co] 37 (0, 0))) (.cells #[.int .i64 1, .string ⟨#[112]⟩, .slice none 0 0, .int .i64 4, .string ⟨#[]⟩, .slice sn 1 cn] 37 (0, 0))) (.cells #[.int .i64 1, .string ⟨#[112]⟩, .slice none 0 0] 37 (0, 0))) (.cells #[.int .i64 1, .string ⟨#[112]⟩, .slice none 0 0] 37 (0, 0))) (.cells #[.string ⟨#[97, 120]⟩, .int .i64 1, .string ⟨#[112]⟩, .slice none 0 0, .slice (some ⟨w3.heap.size + 1 + 1 + 1, 0, none⟩) 1 1, .slice (some ⟨w3.heap.size + 1 + 1 + 1 + 1, 0, none⟩) 1 1, .slice none 0 0] 62 (0, 0))) (.cells #[.string ⟨#[110, 111, 116, 45, 114]⟩, .int .i64 4, .string ⟨#[]⟩, .slice sn 1 cn, .slice none 0 0, .slice (some ⟨w3.heap.size + 1 + 1, 0, none⟩) 2 2, .slice (some ⟨w3.heap.size + 1 + 1 + 1 + 1 + 1, 0, none⟩) 1 1] 62 (0, 0))
  generalize World.alloc _ _ = F at *
  rw [hXs] at f0 f1 f2 f3 f4 f5 f6 g0
  have hp := (g0 w.heap.size z5).trans hXp
  have mvO := HO.out.move (w' := F) (ok' := fun _ => True) fun b hb ho => ⟨(g0 b hb).trans (hXo b ho), trivial⟩
  have mvN := HN3.out.move (w' := F) (ok' := fun _ => True) fun b hb ho => ⟨(g0 b hb).trans (hXo b ho), trivial⟩
  have rP : Rep F (fun _ => True) mP (.agg #[.int .i64 1, .string ⟨#[112]⟩, .slice none 0 0]) := Rep.leaf (by decide)
  have pA : PRep F midA (.agg #[.string ⟨#[97, 120]⟩, .int .i64 1, .string ⟨#[112]⟩, .slice none 0 0, .slice (some ⟨w3.heap.size + 1 + 1 + 1, 0, none⟩) 1 1, .slice (some ⟨w3.heap.size + 1 + 1 + 1 + 1, 0, none⟩) 1 1, .slice none 0 0]) := PRep.def.2 ⟨_, _, _, _, _, none, 0, rfl, by decide, rP, FL.sing f3 rP, FL.sing f4 rP, Nat.le_refl _, by simp, fun h => absurd rfl h⟩
  have pN : PRep F midN (.agg #[.string ⟨#[110, 111, 116, 45, 114]⟩, .int .i64 4, .string ⟨#[]⟩, .slice sn 1 cn, .slice none 0 0, .slice (some ⟨w3.heap.size + 1 + 1, 0, none⟩) 2 2, .slice (some ⟨w3.heap.size + 1 + 1 + 1 + 1 + 1, 0, none⟩) 1 1]) := PRep.def.2 ⟨_, _, _, _, _, _, 1, rfl, by decide, mvN, FL.none, FL.duo f2 rP mvN, Nat.le_refl _, by simp [maxLen], fun _ => ⟨_, 0, rfl, PReps.cons.2 ⟨⟨_, _, _, _, _, _, _, blk_cell f5 0, blk_cell f5 1, blk_cell f5 2, blk_cell f5 3, blk_cell f5 4, blk_cell f5 5, blk_cell f5 6, pA⟩, PReps.nil⟩⟩⟩
  have pO : PRep F midO (.agg #[.string ⟨#[111, 114, 45, 114]⟩, .int .i64 6, .string ⟨#[]⟩, .slice so 2 co, .slice none 0 0, .slice (some ⟨w3.heap.size + 1, 0, none⟩) 1 1, .slice (some ⟨w3.heap.size + 1 + 1 + 1 + 1 + 1 + 1, 0, none⟩) 1 1]) := PRep.def.2 ⟨_, _, _, _, _, _, 1, rfl, by decide, mvO, FL.none, FL.sing f1 mvO, Nat.le_refl _, by simp [maxLen], fun _ => ⟨_, 0, rfl, PReps.cons.2 ⟨⟨_, _, _, _, _, _, _, blk_cell f6 0, blk_cell f6 1, blk_cell f6 2, blk_cell f6 3, blk_cell f6 4, blk_cell f6 5, blk_cell f6 6, pN⟩, PReps.nil⟩⟩⟩
  have HPO : Hid (PRep F midO _) := pO
  obtain ⟨y0, y1, y2, y3, y4, y5, y6⟩ := blk7 hp
  exact bodyPost_ret (v := .agg #[.string ⟨#[111, 114, 45, 114]⟩, .int .i64 6, .string ⟨#[]⟩, .slice so 2 co, .slice none 0 0, .slice (some ⟨w3.heap.size + 1, 0, none⟩) 1 1, .slice (some ⟨w3.heap.size + 1 + 1 + 1 + 1 + 1 + 1, 0, none⟩) 1 1]) (by simp [results, Try.results54, go_sem, y0, y1, y2, y3, y4, y5, y6]) rfl ⟨_, rfl, HPO.out, hBF⟩
end Go.Proofs.Ytknngeojhiejnab
/- Walks: calculusBegun. -/
namespace Go.Proofs.Ytknngeojhiejnab
open Go.RowKit
theorem mid_no : (look false midO 1 0 0).1 = (0, 0) := by decide +kernel
theorem mid_yes : (look true midO 1 0 0).1 = (4, 0) := by decide +kernel
theorem mid_small : SmallP midO := SmallP.mk (by decide) (by decide) (by decide) fun k hk => by
  simp only [List.mem_cons, List.not_mem_nil, or_false] at hk
  subst hk
  refine SmallP.mk (by decide) (by decide) (by decide) fun k hk => ?_
  simp only [List.mem_cons, List.not_mem_nil, or_false] at hk
  subst hk
  exact SmallP.mk (by decide) (by decide) (by decide) fun k hk => by cases hk

set_option maxRecDepth 10000 in
set_option maxHeartbeats 4000000 in
theorem calculusBegun_any (w : World) : Calls Try.prog 28 #[] w fun e w' => e = .returned (.bool true) ∧ Below w.heap.size w w' := by
  have hc1 := fun v (w : World) h => pcheck_any false midO mid_small v w h
  have hc2 := fun v (w : World) h => pcheck_any true midO mid_small v w h
  simp only [mid_no, mid_yes] at hc1 hc2
  have HC1 : Hid (∀ v w, PRep w midO v → Calls Try.prog 30 #[v, .bool false] w fun e w' => e = .returned (.agg #[.int .i64 0, .int .i64 0]) ∧ Below w.heap.size w w') := hc1
  have HC2 : Hid (∀ v w, PRep w midO v → Calls Try.prog 30 #[v, .bool true] w fun e w' => e = .returned (.agg #[.int .i64 4, .int .i64 0]) ∧ Below w.heap.size w w') := hc2
  clear hc1 hc2
  go_enter Try.func28, Try.ntmps28
  go_wp2_with fail
  refine (middle_any w).mono ?_
  rintro e w1 ⟨x, rfl, hx, hb1⟩
  have HX : Hid (PRep w1 midO x) := hx
  clear hx
  go_wp2_with fail
  refine (HC1.out _ _ HX.out).mono ?_
  rintro e w2 ⟨rfl, hb2⟩
  have B2 := below_join hb1 hb2
  clear hb1 hb2
  go_wp2_with fail
  refine (middle_any _).mono ?_
  rintro e w3 ⟨y, rfl, hy, hb3⟩
  have HY : Hid (PRep w3 midO y) := hy
  have B3 := below_join (below_more B2 _) hb3
  have Q3 : Hid (w3.heap[w2.heap.size]? = some _) := below_keep hb3 (blk_new w2 _)
  clear hy hb3
  go_wp2_with fail
  refine (HC2.out _ _ HY.out).mono ?_
  rintro e w4 ⟨rfl, hb4⟩
  have B4 := below_join B3 hb4
  have Q4 : Hid (w4.heap[w2.heap.size]? = some _) := below_keep hb4 Q3.out
  have z4 := lt_of_block Q4.out
  obtain ⟨a0, a1, -⟩ := blk2 Q4.out
  have d1 : ¬ w2.heap.size = w4.heap.size := by omega
  have d2 : ¬ w4.heap.size = w2.heap.size := by omega
  clear hb4
  go_wp2_with fail
  have hp0 := blk_new w4 (.cells #[.int .i64 4, .int .i64 0] 25 (0, 0))
  obtain ⟨b0, b1, -⟩ := blk2 hp0
  obtain ⟨c0, c1, -⟩ := blk2 (alloc_keep Q4.out (.cells #[.int .i64 4, .int .i64 0] 25 (0, 0)))
  go_region_held3 (fun w' => w'.cell? ⟨w2.heap.size, 0, none⟩ = some (.int .i64 0) ∧ w'.cell? ⟨w4.heap.size, 0, none⟩ = some (.int .i64 4) ∧ w'.cell? ⟨w4.heap.size, 1, none⟩ = some (.int .i64 0)) (go_keep)
    (first
     | (go_at_call 16
        refine (mkF_any 4 0 _).mono ?_
        rintro e w5 ⟨rfl, hb5⟩
        have B5 := below_join (below_more B4 _).drew hb5
        obtain ⟨e0, e1, -⟩ := blk2 (below_keep hb5 (show ((w4.alloc (.cells #[.int .i64 4, .int .i64 0] 25 (0, 0))).drew).heap[w4.heap.size]? = _ from hp0))
        obtain ⟨f0, f1, -⟩ := blk2 (below_keep hb5 (show ((w4.alloc (.cells #[.int .i64 4, .int .i64 0] 25 (0, 0))).drew).heap[w2.heap.size]? = _ from alloc_keep Q4.out _))
        clear hb5)
     | fail)
  all_goals
    go_wp2_with fail
    go_ret
    exact ⟨rfl, B5⟩
end Go.Proofs.Ytknngeojhiejnab
/- Walks: CalculusSound. -/
namespace Go.Proofs.Ytknngeojhiejnab
open Go.RowKit

theorem look_root {i : Bool} {a : ByteArray} {f : Fm} {l r : List Fm} {ks : List Pf} {d s c : Nat} (h : (look i (.mk a f l r ks) d s c).1.1 = 0) : (seqCode l r).1 = 0 := by
  rw [look_def] at h
  split at h
  · cases h
  · split at h
    · rename_i hs
      exact absurd h hs
    · rename_i hs
      have hs' : stepC i (.mk a f l r ks) = 0 := Classical.byContradiction fun e => hs e
      rw [stepC] at hs'
      split at hs'
      · cases hs'
      · rename_i hn
        exact Classical.byContradiction fun e => hn (Or.inl e)

set_option maxRecDepth 10000 in
set_option maxHeartbeats 4000000 in
theorem psound_any (i : Bool) (p : Pf) (v : Value) (w : World) (hv : PRep w p v) :
    Calls Try.prog 7 #[v, .bool i] w fun e w' => e = .returned (.bool true) ∧ Below w.heap.size w w' := by
  obtain ⟨a, ⟨k, n, kf⟩, l, r, ks⟩ := p
  have HV : Hid (PRep w (.mk a (.mk k n kf) l r ks) v) := hv
  obtain ⟨sf, cf, al, cl, ar, cr, sl, cap, rfl, -, -, hl, hr, -⟩ := hv.parts
  have HL : Hid (FL w (.slice al l.length cl) l) := hl
  have HR : Hid (FL w (.slice ar r.length cr) r) := hr
  obtain ⟨O, hO⟩ : ∃ O, O = Obj.cells #[.string a, .int .i64 k, .string n, .slice sf kf.length cf, .slice al l.length cl, .slice ar r.length cr, .slice sl ks.length cap] 62 (0, 0) := ⟨_, rfl⟩
  have B0 := below_more (Below.refl _ w) O
  have hp0 := blk_new w O
  have P0 : Hid ((w.alloc O).heap[w.heap.size]? = some (.cells #[.string a, .int .i64 k, .string n, .slice sf kf.length cf, .slice al l.length cl, .slice ar r.length cr, .slice sl ks.length cap] 62 (0, 0))) := by rw [← hO]; exact hp0
  have HCh : Hid (∀ v w, SmallP (.mk a (.mk k n kf) l r ks) → PRep w (.mk a (.mk k n kf) l r ks) v → Calls Try.prog 30 #[v, .bool i] w fun e w' => e = .returned (.agg #[.int .i64 (look i (.mk a (.mk k n kf) l r ks) 1 0 0).1.1, .int .i64 (if (look i (.mk a (.mk k n kf) l r ks) 1 0 0).1.1 ≠ 0 then (look i (.mk a (.mk k n kf) l r ks) 1 0 0).1.2 else 0)]) ∧ Below w.heap.size w w') := fun v w hs h => pcheck_any i _ hs v w h
  have HSo : Hid ((look i (.mk a (.mk k n kf) l r ks) 1 0 0).1.1 = 0 → (seqCode l r).1 = 0 ∧ Valid l r) := fun h => ⟨look_root h, look_sound i _ _ _ _ h⟩
  generalize (if (look i (.mk a (.mk k n kf) l r ks) 1 0 0).1.1 ≠ 0 then (look i (.mk a (.mk k n kf) l r ks) 1 0 0).1.2 else 0) = la at *
  generalize (look i (.mk a (.mk k n kf) l r ks) 1 0 0).1.1 = lc at *
  clear hv hl hr hp0
  go_enter Try.func7, Try.ntmps7
  go_wp2_with fail
  rw [← hO]
  refine (calculusBegun_any _).mono ?_
  rintro e w1 ⟨rfl, hb1⟩
  have B1 := below_join B0 hb1
  have P1 : Hid (w1.heap[w.heap.size]? = some _) := below_keep hb1 P0.out
  obtain ⟨j0, j1, j2, j3, j4, j5, j6⟩ := blk7 P1.out
  clear hO hb1 P0 B0
  go_wp2_with fail
  refine (pvast_any _ _ _ (PRep.up B1 _ _ HV.out)).mono ?_
  rintro e w2 ⟨⟨b1, rfl, hsm⟩, hb2⟩
  have B2 := below_join B1 hb2
  have P2 : Hid (w2.heap[w.heap.size]? = some _) := below_keep hb2 P1.out
  have HSm : Hid (b1 = false → SmallP (.mk a (.mk k n kf) l r ks)) := hsm
  clear j0 j1 j2 j3 j4 j5 j6 hb2 hsm P1 B1
  cases b1
  case true =>
    go_wp2_with fail
    go_ret
    exact ⟨rfl, B2⟩
  case false =>
    have hsm := HSm.out rfl
    have HSM : Hid (SmallP (.mk a (.mk k n kf) l r ks)) := hsm
    obtain ⟨hl4, hr4, -⟩ := hsm.parts
    clear hsm HSm
    obtain ⟨j0, j1, j2, j3, j4, j5, j6⟩ := blk7 P2.out
    go_wp2_with fail
    refine (HCh.out _ _ HSM.out (PRep.up B2 _ _ HV.out)).mono ?_
    rintro e w3 ⟨rfl, hb3⟩
    have B3 := below_join B2 hb3
    have P3 : Hid (w3.heap[w.heap.size]? = some _) := below_keep hb3 P2.out
    have z3 := lt_of_block P3.out
    have d1 : ¬ w.heap.size = w3.heap.size := by omega
    clear j0 j1 j2 j3 j4 j5 j6 hb3 P2 B2 HCh
    obtain ⟨j0, j1, j2, j3, j4, j5, j6⟩ := blk7 P3.out
    by_cases hlc : lc = 0
    · subst hlc
      obtain ⟨hsq, hval⟩ := HSo.out rfl
      obtain ⟨h60, hfl, hfr⟩ := seqCode_fine hsq
      have hfine : Fine (asF l r) := asF_fine (fun f hf => (pcode_fine (hfl f hf)).1) (fun f hf => (pcode_fine (hfr f hf)).1)
      have hsize : (asF l r).size ≤ 20000 := asF_size (fun f hf => (pcode_fine (hfl f hf)).2) (fun f hf => (pcode_fine (hfr f hf)).2) h60
      have htv := asF_tv hval
      have HAs : Hid (∀ wx, Below w.heap.size w wx → Calls Try.prog 31 #[.agg #[.slice al l.length cl, .slice ar r.length cr]] wx fun e w' => ∃ x, e = .returned x ∧ Rep w' (fun _ => True) (asF l r) x ∧ Below wx.heap.size wx w') := fun wx hb => as_any l r (by omega) (by omega) _ _ wx (HL.out.up hb) (HR.out.up hb)
      have HNi : Hid (∀ v w, FL w v [asF l r] → Calls Try.prog 19 #[v] w fun e w' => ∃ x, e = .returned x ∧ TL w' x (nmsU (asF l r)) ∧ Below w.heap.size w w') := fun v w h => namesIn_big _ hsize v w h
      have HIn : Hid ((nmsU (asF l r)).length ≤ 10 → ∀ wx, Below w.heap.size w wx → Calls Try.prog 32 #[.agg #[.slice al l.length cl, .slice ar r.length cr]] wx fun e w' => e = .returned (.bool true) ∧ Below wx.heap.size wx w') := fun hn wx hb => inAll_any l r (by omega) (by omega) hfine hsize hn htv _ _ wx (HL.out.up hb) (HR.out.up hb)
      clear HSo hsq hval h60 hfl hfr hfine hsize htv
      generalize nmsU (asF l r) = U at *
      generalize asF l r = A at *
      obtain ⟨kA, nA, ksA⟩ := A
      go_wp2_with fail
      refine (HAs.out _ (below_more B3 _)).mono ?_
      rintro e w4 ⟨x, rfl, hx, hb4⟩
      obtain ⟨sx, cx, rfl⟩ := slice_shape hx
      have HX : Hid (Rep w4 (fun _ => True) (.mk kA nA ksA) _) := hx
      have B4 := below_join (below_more B3 _) hb4
      have P4 : Hid (w4.heap[w.heap.size]? = some _) := below_keep hb4 (alloc_keep P3.out _)
      clear hx hb4 j0 j1 j2 j3 j4 j5 j6
      go_wp2_with fail
      refine (HNi.out _ _ (FL.sing (blk_new w4 _) (HX.out.more _))).mono ?_
      rintro e w5 ⟨y, rfl, hy, hb5⟩
      obtain ⟨ady, cpy, rfl, hyc, hycm, -⟩ := hy
      have B5 := below_join (below_more B4 _) hb5
      have P5 : Hid (w5.heap[w.heap.size]? = some _) := below_keep hb5 (alloc_keep P4.out _)
      obtain ⟨j0, j1, j2, j3, j4, j5, j6⟩ := blk7 P5.out
      have hUI : (U.length : Int) ≤ 9223372036854775807 := by unfold maxLen at hycm; omega
      clear hb5 hyc hycm
      by_cases hU : U.length ≤ 10
      · have hUJ : ¬ (10 : Int) < (U.length : Int) := by omega
        have HIN : Hid (∀ wx, Below w.heap.size w wx → Calls Try.prog 32 #[.agg #[.slice al l.length cl, .slice ar r.length cr]] wx fun e w' => e = .returned (.bool true) ∧ Below wx.heap.size wx w') := HIn.out hU
        clear HIn hU
        go_wp2_with fail
        refine (HIN.out _ B5).mono ?_
        rintro e w6 ⟨rfl, hb6⟩
        have B6 := below_join B5 hb6
        go_wp2_with fail
        go_ret
        exact ⟨rfl, B6⟩
      · have hUJ : (10 : Int) < (U.length : Int) := by omega
        clear HIn hU
        go_wp2_with fail
        go_ret
        exact ⟨rfl, B5⟩
    · have hlJ : (lc != 0) = true := by simpa using hlc
      clear HSo
      go_wp2_with fail
      go_ret
      exact ⟨rfl, below_more B3 _⟩
end Go.Proofs.Ytknngeojhiejnab
