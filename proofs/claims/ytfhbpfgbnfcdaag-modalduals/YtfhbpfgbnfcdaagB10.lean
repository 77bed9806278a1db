/- Texts of one proof, one behind the other: ME3. -/
import Derived.Test.YtfhbpfgbnfcdaagB04
import Derived.Test.YtfhbpfgbnfcdaagB07
/- Walks: frames; which worlds are such, by what they see. -/
namespace Go.Proofs.Ytfhbpfgbnfcdaag
open Go.RowKit

/-- Of each world what it sees, in memory. -/
def FR (w : World) (g N : Nat) (R : Nat → Nat → Bool) : Prop := ∀ u, u < N → w.cell? ⟨g, u, none⟩ = some (.int .u64 (bm N (R u) : Nat))
theorem FR.up {w w' : World} {g N : Nat} {R : Nat → Nat → Bool} (h : FR w g N R) (hb : Below w.heap.size w w') : FR w' g N R := fun u hu => (hb.cell (lt_of_cell (h u hu))).trans (h u hu)
/-- What is asked of what a world sees: it only makes memory. -/
structure AskS (N fn : Nat) (cap : Array Value) (q : (Nat → Bool) → Bool) (Ok : World → Prop) : Prop where
  up : ∀ {w w' : World}, Ok w → Below w.heap.size w w' → Ok w'
  ent : ∀ (v : Value) (w : World), (callFunc fn (#[v] ++ cap)).run Try.prog w = .ok (.enter fn (#[v] ++ cap)) w
  call : ∀ (P : Nat → Bool) (w : World), Ok w → Calls Try.prog fn (#[.int .u64 (bm N P : Nat)] ++ cap) w fun e w' => e = .returned (.bool (q P)) ∧ Below w.heap.size w w'
theorem set_with1x {N : Nat} (hN : N ≤ 40) (P : Nat → Bool) {x : Nat} (hx : x = bm N P) (n b : Nat) (hn : n < N) (w : World) (hc : w.cell? ⟨b, 0, none⟩ = some (.int .i64 (n : Nat))) :
    Calls Try.prog 28 #[.int .u64 (x : Nat), .slice (some ⟨b, 0, none⟩) 1 1] w fun e w' => e = .returned (.int .u64 (bm N (fun i => P i || i == n) : Nat)) ∧ w' = w := by
  rw [hx]; exact set_with1 hN P n b hn w hc
set_option maxHeartbeats 2000000 in
theorem those_any {N fn : Nat} (hN : N ≤ 40) {cap : Array Value} {q : (Nat → Bool) → Bool} {Ok : World → Prop} (A : AskS N fn cap q Ok) (g : Nat) (R : Nat → Nat → Bool) (w : World) (hF : FR w g N R) (hok : Ok w) :
    Calls Try.prog 47 #[.slice (some ⟨g, 0, none⟩) N N, .func (.func fn) #[] cap] w fun e w' => e = .returned (.int .u64 (bm N (fun u => q (R u)) : Nat)) ∧ Below w.heap.size w w' := by
  (have hNI : (N : Int) ≤ 40 := by omega); have hcf := A.ent; (have HA : Hid (∀ (P : Nat → Bool) (w : World), Ok w → Calls Try.prog fn (#[.int .u64 (bm N P : Nat)] ++ cap) w fun e w' => e = .returned (.bool (q P)) ∧ Below w.heap.size w w') := A.call); have HU : Hid (∀ {w w' : World}, Ok w → Below w.heap.size w w' → Ok w') := A.up; have HF : Hid (FR w g N R) := hF; have HO : Hid (Ok w) := hok; have HN : Hid (N ≤ 40) := hN; clear hF hok A hN
  go_enter Try.func47, Try.ntmps47
  go_wp2_with fail
  go_loopg [10, 5] N (fun gg c s wr => ∃ i x, i ≤ N ∧ gg = N - i ∧ c = .int .i64 (i : Nat) ∧ s = .int .u64 (x : Nat) ∧ Hid (x = bm N fun u => decide (u < i) && q (R u)) ∧ Hid (Below w.heap.size w wr))
  case atStart => exact ⟨0, 0, by omega, by omega, rfl, rfl, by show _ = _; exact (bm_none N).symm.trans (bm_ext fun k _ => by simp), Below.refl _ _⟩
  case round =>
    obtain ⟨i, x, hi, hg, rfl, rfl, HX, HB⟩ := hrel; have HGk : Hid (gk = N - i) := hg; clear hg; by_cases hlt : i < N
    · have hltI : (i : Int) < (N : Int) := by omega
      have c0 := HF.out.up HB.out i hlt; have HC : Hid (Calls Try.prog fn (#[.int .u64 (bm N (R i) : Nat)] ++ cap) wr _) := HA.out (R i) wr (HU.out HO.out HB.out); have HI : Hid (i < N) := hlt; obtain ⟨y, hy⟩ : ∃ y, y = bm N (R i) := ⟨_, rfl⟩; rw [← hy] at c0 HC; obtain ⟨bb, hbb⟩ : ∃ bb, bb = q (R i) := ⟨_, rfl⟩; rw [← hbb] at HC; have HBB : Hid (bb = q (R i)) := hbb; clear hlt hi hy hbb; go_wp2_with fail; refine HC.out.mono ?_; rintro _ w1 ⟨rfl, hb1⟩; have HB1 : Hid (Below w.heap.size w w1) := below_join HB.out hb1; clear hb1 c0
      cases bb
      · go_wp2_with fail
        go_roundg (N - (i + 1))
        case measure => have := HGk.out; have := HI.out; omega
        case rel =>
          (refine ⟨i + 1, x, HI.out, rfl, by go_num, rfl, ?_, HB1⟩); show _ = _; rw [HX.out]; (refine bm_ext fun u _ => ?_); by_cases e : u = i
          · subst e; simp [← HBB.out]
          · have : decide (u < i + 1) = decide (u < i) := by rw [decide_eq_decide]; omega
            rw [this]
      · have HY : Hid (Calls Try.prog 28 #[.int .u64 (x : Nat), .slice (some ⟨w1.heap.size, 0, none⟩) 1 1] (w1.alloc (.cells #[.int .i64 (i : Nat)] 3 (0, 0))) _) := set_with1x HN.out _ HX.out i w1.heap.size HI.out (w1.alloc (.cells #[.int .i64 (i : Nat)] 3 (0, 0))) (by simp)
        go_wp2_with fail; refine HY.out.mono ?_; rintro _ _ ⟨rfl, rfl⟩; have HB2 : Hid (Below w.heap.size w (w1.alloc (.cells #[.int .i64 (i : Nat)] 3 (0, 0)))) := below_more HB1.out _; clear HY; go_wp2_with fail
        go_roundg (N - (i + 1))
        case measure => have := HGk.out; have := HI.out; omega
        case rel =>
          (refine ⟨i + 1, _, HI.out, rfl, by go_num, rfl, ?_, HB2⟩); show _ = _; (refine bm_ext fun u _ => ?_); by_cases e : u = i
          · subst e; simp [← HBB.out]
          · have : decide (u < i + 1) = decide (u < i) := by rw [decide_eq_decide]; omega
            simp [this, e]
    · have hii : i = N := by omega
      subst hii; (have hge : ¬ (i : Int) < (i : Int) := by omega); clear hlt hi; go_wp2_with fail; go_ret; (refine ⟨congrArg (fun x : Nat => Ending.returned (Value.int .u64 (x : Int))) (HX.out.trans (bm_ext fun u hu => ?_)), HB.out⟩); simp [hu]
end Go.Proofs.Ytfhbpfgbnfcdaag
