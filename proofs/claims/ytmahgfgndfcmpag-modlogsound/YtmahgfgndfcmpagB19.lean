/- Texts of one proof, one behind the other: MAF, MA6, MLO. -/
import Derived.Test.YtmahgfgndfcmpagB14
import Derived.Test.YtmahgfgndfcmpagB15
import Derived.Test.YtmahgfgndfcmpagB10
import Derived.Test.YtmahgfgndfcmpagB13
import Derived.Test.YtmahgfgndfcmpagB09
import Derived.Test.YtmahgfgndfcmpagB05
/- Walks: at which worlds a formula is true, by the yardstick. -/
namespace Go.Proofs.Ytmahgfgndfcmpag
open Go.RowKit Go.Sort

theorem allR_step (N : Nat) (hN1 : 0 < N) (hN : N ≤ 40) (rel : List (Int × Int)) (hrl : rel.length ≤ 2000) (hin : InR N rel) (tr : List (List (List UInt8))) (htr : tr.length = N) (m : Nat) (ih : AllR N rel tr m) : AllR N rel tr (m + 1) := by
  intro f v u w hm hfi hv hrep
  rcases hfi.forms with ⟨n, rfl, -⟩ | rfl | rfl | ⟨k, q, hk, rfl, -⟩ | ⟨k, q, q', hk, rfl, -, -⟩
  · exact allR_A N hN1 hN rel hrl hin tr htr m ih _ _ _ (Or.inl rfl) hm hfi v u w hv hrep
  · exact allR_A N hN1 hN rel hrl hin tr htr m ih _ _ _ (Or.inr (Or.inl rfl)) hm hfi v u w hv hrep
  · exact allR_A N hN1 hN rel hrl hin tr htr m ih _ _ _ (Or.inr (Or.inr rfl)) hm hfi v u w hv hrep
  · rcases hk with h | h | h
    · exact allR_B N hN1 hN rel hrl hin tr htr m ih _ _ _ h hm hfi v u w hv hrep
    · exact allR_D N hN1 hN rel hrl hin tr htr m ih _ _ _ h hm hfi v u w hv hrep
    · exact allR_E N hN1 hN rel hrl hin tr htr m ih _ _ _ h hm hfi v u w hv hrep
  · exact allR_C N hN1 hN rel hrl hin tr htr m ih _ _ _ hk hm hfi v u w hv hrep
theorem allRs_all (N : Nat) (hN1 : 0 < N) (hN : N ≤ 40) (rel : List (Int × Int)) (hrl : rel.length ≤ 2000) (hin : InR N rel) (tr : List (List (List UInt8))) (htr : tr.length = N) : ∀ m, AllR N rel tr m
  | 0 => fun _ _ _ _ h => absurd h (Nat.not_lt_zero _)
  | m + 1 => allR_step N hN1 hN rel hrl hin tr htr m (allRs_all N hN1 hN rel hrl hin tr htr m)
theorem allAt_any (N : Nat) (hN1 : 0 < N) (hN : N ≤ 40) (rel : List (Int × Int)) (hrl : rel.length ≤ 2000) (hin : InR N rel) (tr : List (List (List UInt8))) (htr : tr.length = N) (f : Fm) (v u : Value) (w : World) (hf : Fine f) (hv : MR w ⟨(N : Int), rel, tr⟩ v) (hu : Rep w (fun _ => True) f u) :
    Calls Try.prog 19 #[v, u] w fun e w' => ∃ g, e = .returned (.slice (some ⟨g, 0, none⟩) N N) ∧ w.heap.size ≤ g ∧ w'.heap[g]? = some (.cells (outC N N (mtv (seeR N (relB rel)) (pT tr) f)) 4 (0, 0)) ∧ Below w.heap.size w w' :=
  allRs_all N hN1 hN rel hrl hin tr htr (f.size + 1) f v u w (Nat.lt_succ_self _) hf hv hu
end Go.Proofs.Ytmahgfgndfcmpag
/- What the yardstick asks of frames are the six shapes, plain. -/
namespace Go.Proofs.Ytmahgfgndfcmpag

section
variable {N : Nat} {R : Nat → Nat → Bool}
theorem dec_seeR {u v : Nat} (hv : v < N) : decide (v ∈ seeR N R u) = R u v := by
  rw [Bool.eq_iff_iff, decide_eq_true_iff, mem_seeR]; (exact ⟨fun h => h.2, fun h => ⟨hv, h⟩⟩)
theorem sub_seeR {u v : Nat} : ((seeR N R v).all fun y => decide (y ∈ seeR N R u)) = subB N (R v) (R u) := by
  rw [Bool.eq_iff_iff, List.all_eq_true, subB, decide_eq_true_iff]
  constructor
  · intro h y hy hr
    have := h y (mem_seeR.2 ⟨hy, hr⟩)
    rwa [dec_seeR hy] at this
  · intro h y hy
    obtain ⟨h1, h2⟩ := mem_seeR.1 hy; rw [dec_seeR h1]; exact h y h1 h2
theorem all_congrM {l : List Nat} {f g : Nat → Bool} (h : ∀ x ∈ l, f x = g x) : l.all f = l.all g := by
  rw [Bool.eq_iff_iff, List.all_eq_true, List.all_eq_true]; (exact ⟨fun h1 x hx => by rw [← h x hx]; exact h1 x hx, fun h1 x hx => by rw [h x hx]; exact h1 x hx⟩)
theorem a0_sh : a0S (seeR N R) N = sh0 N R := all_congrM fun _ hu => dec_seeR (List.mem_range.1 hu)
theorem a1_sh : a1S (seeR N R) N = sh1 N R := all_congrM fun _ _ => all_congrM fun _ _ => sub_seeR
theorem a2_sh : a2S (seeR N R) N = sh2 N R := all_congrM fun _ hu => all_congrM fun _ _ => dec_seeR (List.mem_range.1 hu)
theorem a3_sh : a3S (seeR N R) N = sh3 N R := all_congrM fun _ _ => all_congrM fun _ _ => sub_seeR
theorem a4_sh : a4S (seeR N R) N = sh4 N R := all_congrM fun u _ => by
  cases seeR N R u with
  | nil => rfl
  | cons a l => simp
theorem a5_sh : a5S (seeR N R) N = sh5 N R := by
  rw [sh5, ← a1_sh, a1S, a5S, Bool.eq_iff_iff, Bool.and_eq_true, List.all_eq_true, List.all_eq_true, List.all_eq_true]
  constructor
  · intro h
    (refine ⟨fun u hu => ((Bool.and_eq_true_iff).1 (h u hu)).2, fun u hu => ?_⟩); have := ((Bool.and_eq_true_iff).1 (h u hu)).1; rw [dec_seeR (List.mem_range.1 hu)] at this; exact this
  · intro h u hu
    rw [Bool.and_eq_true]; refine ⟨?_, h.1 u hu⟩; rw [dec_seeR (List.mem_range.1 hu)]; exact h.2 u hu
end
end Go.Proofs.Ytmahgfgndfcmpag
/- The yardstick's OfLogic. -/
namespace Go.Proofs.Ytmahgfgndfcmpag
open Go.RowKit Go.Sort

set_option maxRecDepth 10000 in
set_option maxHeartbeats 8000000 in
theorem ofLogic_any (N : Nat) (hN : N ≤ 40) (rel : List (Int × Int)) (hrl : rel.length ≤ 2000) (hin : InR N rel) (tr : List (List (List UInt8))) (k : Nat) (hk1 : 1 ≤ k) (hk8 : k ≤ 8) (v : Value) (w : World) (hv : MR w ⟨(N : Int), rel, tr⟩ v) :
    Calls Try.prog 29 #[v, .int .i64 (k : Nat)] w fun e w' => e = .returned (.bool (ofB k N (relB rel))) ∧ Below w.heap.size w w' := by
  have HSo : Hid (∀ v W, MR W ⟨(N : Int), rel, tr⟩ v → Calls Try.prog 16 #[v] W fun e w' => e = .returned (.agg #[.bool (sh0 N (relB rel)), .bool (sh1 N (relB rel)), .bool (sh2 N (relB rel)), .bool (sh3 N (relB rel)), .bool (sh4 N (relB rel)), .bool (sh5 N (relB rel))]) ∧ Below W.heap.size W w') := fun v W h => by
    (have h9 := shapeOf_any N hN rel hrl hin tr v W h (seeR N (relB rel)) (fun u => seeR_eq hin u))
    rwa [a0_sh, a1_sh, a2_sh, a3_sh, a4_sh, a5_sh] at h9
  have HMr : Hid (MR w ⟨(N : Int), rel, tr⟩ v) := hv; obtain ⟨ra, rc, ta, tc, rfl, -, -, -⟩ := hv; unfold ofB; generalize sh0 N (relB rel) = s0 at *; generalize sh1 N (relB rel) = s1 at *; generalize sh2 N (relB rel) = s2 at *; generalize sh3 N (relB rel) = s3 at *; generalize sh4 N (relB rel) = s4 at *; generalize sh5 N (relB rel) = s5 at *; clear hN hrl hin; simp only at HMr ⊢; obtain ⟨X, hX⟩ : ∃ X, X = w.alloc (.cells #[.int .i64 (N : Nat), .slice ra rel.length rc, .slice ta tr.length tc] 25 (0, 0)) := ⟨_, rfl⟩; (have HBX : Hid (Below w.heap.size w X) := by rw [hX]; exact below_more (Below.refl _ _) _)
  go_enter Try.func29, Try.ntmps29
  go_wp2_with fail; rw [← hX]; clear hX; refine (HSo.out _ _ (HMr.out.up HBX.out)).mono ?_; rintro _ w1 ⟨rfl, hb1⟩; obtain ⟨Y, hY⟩ : ∃ X, X = w1.alloc (b6 s0 s1 s2 s3 s4 s5) := ⟨_, rfl⟩; (have HBY : Hid (Below w.heap.size w Y) := by rw [hY]; exact below_more (below_join HBX.out hb1) _); (have HYs : Hid (Y.heap[w1.heap.size]? = some (b6 s0 s1 s2 s3 s4 s5)) := by rw [hY]; exact blk_new _ _); unfold b6 at hY; have hY' := hY.symm; clear hb1 hY HSo HMr; obtain ⟨⟨c0, c1, c2, -, c4, c5⟩, -⟩ := b6_cells HYs.out; (obtain rfl | rfl | rfl | rfl | rfl | rfl | rfl | rfl : k = 1 ∨ k = 2 ∨ k = 3 ∨ k = 4 ∨ k = 5 ∨ k = 6 ∨ k = 7 ∨ k = 8 := by omega)
  all_goals clear hk1 hk8
  · go_wp2_with fail
    go_ret; exact ⟨rfl, HBY.out⟩
  · go_wp2_with fail
    go_ret; exact ⟨rfl, HBY.out⟩
  · go_wp2_with fail
    go_ret; exact ⟨rfl, HBY.out⟩
  · go_wp2_with fail
    go_ret; exact ⟨rfl, HBY.out⟩
  · cases s0 <;> cases s1
    all_goals
      go_wp2_with fail; go_ret; exact ⟨rfl, HBY.out⟩
  · cases s0 <;> cases s1 <;> cases s2
    all_goals
      go_wp2_with fail; go_ret; exact ⟨rfl, HBY.out⟩
  · cases s0 <;> cases s2
    all_goals
      go_wp2_with fail; go_ret; exact ⟨rfl, HBY.out⟩
  · go_wp2_with fail
    go_ret; exact ⟨rfl, HBY.out⟩
end Go.Proofs.Ytmahgfgndfcmpag
