/- Texts of one proof, one behind the other: Tr2. -/
import Derived.Test.YtffkoiemnchdgabB13
/- Walks: isTrue, whatever is asked of names. -/
namespace Go.Proofs.Ytffkoiemnchdgab
open Go.RowKit

/-- What tells of a name whether it is true: it only makes memory. -/
structure Asks (fn : Nat) (cap : Array Value) (p : List UInt8 → Bool) (Ok : World → Prop) : Prop where
  up : ∀ {w w' : World}, Ok w → Below w.heap.size w w' → Ok w'
  ent : ∀ (v : Value) (w : World), (callFunc fn (#[v] ++ cap)).run Try.prog w = .ok (.enter fn (#[v] ++ cap)) w
  call : ∀ (n : ByteArray) (w : World), Ok w → n.size ≤ 8 → Calls Try.prog fn (#[.string n] ++ cap) w fun e w' => e = .returned (.bool (p n.data.toList)) ∧ Below w.heap.size w w'

def Trues (fn : Nat) (cap : Array Value) (p : List UInt8 → Bool) (Ok : World → Prop) (m : Nat) : Prop := ∀ (f : Fm) (v : Value) (w : World), f.size < m → Fine f → Plain f → Rep w (fun _ => True) f v → Ok w →
  Calls Try.prog 52 #[v, .func (.func fn) #[] cap] w fun e w' => e = .returned (.bool (tv p f)) ∧ Below w.heap.size w w'

/-- The kids of a formula with one, and with two. -/
theorem Rep.kid1 {w : World} {k : Int} {n : ByteArray} {g : Fm} {v : Value} (h : Rep w (fun _ => True) (.mk k n [g]) v) : ∃ b off cap, v = .agg #[.int .i64 k, .string n, .slice (some ⟨b, off, none⟩) 1 cap] ∧ 1 ≤ cap ∧ Reps w (fun _ => True) b off [g] := by
  obtain ⟨sl, cap, rfl, h1, h2, h3, h4⟩ := Rep.def.1 h; (obtain ⟨b, off, rfl, -, hr⟩ := h4 (by simp)); exact ⟨b, off, cap, rfl, h2, hr⟩
theorem Rep.kid2 {w : World} {k : Int} {n : ByteArray} {g g' : Fm} {v : Value} (h : Rep w (fun _ => True) (.mk k n [g, g']) v) : ∃ b off cap, v = .agg #[.int .i64 k, .string n, .slice (some ⟨b, off, none⟩) 2 cap] ∧ 2 ≤ cap ∧ Reps w (fun _ => True) b off [g, g'] := by
  obtain ⟨sl, cap, rfl, h1, h2, h3, h4⟩ := Rep.def.1 h; (obtain ⟨b, off, rfl, -, hr⟩ := h4 (by simp)); exact ⟨b, off, cap, rfl, h2, hr⟩

set_option maxHeartbeats 4000000 in
theorem true_step {fn : Nat} {cap : Array Value} {p : List UInt8 → Bool} {Ok : World → Prop} (A : Asks fn cap p Ok) (m : Nat) (ih : Trues fn cap p Ok m) : Trues fn cap p Ok (m + 1) := by
  intro f v w hm hfi hpl hrep hok; have hcf := A.ent; (have HA : Hid (∀ (n : ByteArray) (w : World), Ok w → n.size ≤ 8 → Calls Try.prog fn (#[.string n] ++ cap) w fun e w' => e = .returned (.bool (p n.data.toList)) ∧ Below w.heap.size w w') := A.call); have HU : Hid (∀ {w w' : World}, Ok w → Below w.heap.size w w' → Ok w') := A.up
  rcases hfi.forms with ⟨n, rfl, hn⟩ | rfl | rfl | ⟨k, g, hk, rfl, hg⟩ | ⟨k, g, g', hk, rfl, hg, hg'⟩
  · obtain ⟨sl, cp, rfl⟩ := slice_shape hrep
    have hsm := hfi.small.1; have B0 := below_more (Below.refl _ w) (.cells #[.int .i64 1, .string n, .slice sl ([] : List Fm).length cp] 37 (0, 0)); have HC : Hid (Calls Try.prog fn (#[.string n] ++ cap) (w.alloc (.cells #[.int .i64 1, .string n, .slice sl ([] : List Fm).length cp] 37 (0, 0))) _) := HA.out n _ (HU.out hok B0) hsm; have HT : Hid (tv p (.mk 1 n []) = p n.data.toList) := tv_name p n; generalize p n.data.toList = bb at *; clear hn hfi hpl hrep
    go_enter Try.func52, Try.ntmps52
    go_wp2_with fail; refine HC.out.mono ?_; rintro e w1 ⟨rfl, hb1⟩; have B1 := below_join B0 hb1; go_wp2_with fail; go_ret; (exact ⟨by rw [HT.out]; rfl, B1⟩)
  · obtain ⟨sl, cp, rfl⟩ := slice_shape hrep
    have B0 := below_more (Below.refl _ w) (.cells #[.int .i64 2, .string ⟨#[]⟩, .slice sl ([] : List Fm).length cp] 37 (0, 0)); have HT : Hid (tv p (.mk 2 ⟨#[]⟩ []) = true) := tv_true p; clear hfi hpl hrep
    go_enter Try.func52, Try.ntmps52
    go_wp2_with fail; go_ret; (exact ⟨by rw [HT.out]; rfl, B0⟩)
  · obtain ⟨sl, cp, rfl⟩ := slice_shape hrep
    have B0 := below_more (Below.refl _ w) (.cells #[.int .i64 3, .string ⟨#[]⟩, .slice sl ([] : List Fm).length cp] 37 (0, 0)); have HT : Hid (tv p (.mk 3 ⟨#[]⟩ []) = false) := tv_false p; clear hfi hpl hrep
    go_enter Try.func52, Try.ntmps52
    go_wp2_with fail; go_ret; (exact ⟨by rw [HT.out]; rfl, B0⟩)
  · have hkk : k = 4 := by
      have := hpl.kind
      rcases hk with rfl | rfl | rfl
      · rfl
      · cases this
      · cases this
    subst hkk; (have hca := fun v (w : World) h o => ih g v w (by rw [size_one] at hm; omega) hg (hpl.kid (by simp)) h o); have HT : Hid (tv p (.mk 4 ⟨#[]⟩ [g]) = !tv p g) := tv_not p g; generalize tv p g = bb at *; (have HC : Hid (∀ v w, Rep w (fun _ => True) g v → Ok w → Calls Try.prog 52 #[v, .func (.func fn) #[] cap] w _) := hca); obtain ⟨b, off, cp, rfl, hcp, hrs⟩ := hrep.kid1; have B0 := below_more (Below.refl _ w) (.cells #[.int .i64 4, .string ⟨#[]⟩, .slice (some ⟨b, off, none⟩) 1 cp] 37 (0, 0)); obtain ⟨k2, n2, ks2⟩ := g; obtain ⟨sl2, cap2, g0, g1, g2, hrep2⟩ := (hrs.up B0).at 0 k2 n2 ks2 rfl; simp only [Nat.zero_mul, Nat.add_zero] at g0 g1 g2; (have hcI : (1 : Int) ≤ (cp : Int) := by omega); have HO : Hid (Ok w) := hok; clear hfi hpl hrep hrs hca hk hg hok
    go_enter Try.func52, Try.ntmps52
    go_wp2_with (first
      | (go_at_call 52
         refine (HC.out _ _ hrep2 (HU.out HO.out B0)).mono ?_; rintro e w1 ⟨rfl, hb1⟩
         have B1 := below_join B0 hb1)
      | fail)
    go_ret; (exact ⟨by rw [HT.out]; rfl, B1⟩)
  · have hca := fun v (w : World) h o => ih g v w (by rw [size_two] at hm; omega) hg (hpl.kid (by simp)) h o
    (have hca' := fun v (w : World) h o => ih g' v w (by rw [size_two] at hm; omega) hg' (hpl.kid (by simp)) h o); have HT : Hid (tv p (.mk 5 ⟨#[]⟩ [g, g']) = (tv p g && tv p g') ∧ tv p (.mk 6 ⟨#[]⟩ [g, g']) = (tv p g || tv p g') ∧ tv p (.mk 7 ⟨#[]⟩ [g, g']) = (!tv p g || tv p g')) := ⟨tv_and p g g', tv_or p g g', tv_then p g g'⟩; generalize tv p g = bb at *; generalize tv p g' = bb' at *; (have HC : Hid (∀ v w, Rep w (fun _ => True) g v → Ok w → Calls Try.prog 52 #[v, .func (.func fn) #[] cap] w _) := hca); (have HC' : Hid (∀ v w, Rep w (fun _ => True) g' v → Ok w → Calls Try.prog 52 #[v, .func (.func fn) #[] cap] w _) := hca'); obtain ⟨b, off, cp, rfl, hcp, hrs⟩ := hrep.kid2; have q0 := blk_new w (.cells #[.int .i64 k, .string ⟨#[]⟩, .slice (some ⟨b, off, none⟩) 2 cp] 37 (0, 0)); have B0 := below_more (Below.refl _ w) (.cells #[.int .i64 k, .string ⟨#[]⟩, .slice (some ⟨b, off, none⟩) 2 cp] 37 (0, 0)); obtain ⟨k2, n2, ks2⟩ := g; obtain ⟨sl2, cap2, g0, g1, g2, hrep2⟩ := (hrs.up B0).at 0 k2 n2 ks2 rfl; obtain ⟨k3, n3, ks3⟩ := g'; obtain ⟨sl3, cap3, p0, p1, p2, hrep3⟩ := (hrs.up B0).at 1 k3 n3 ks3 rfl; simp only [Nat.zero_mul, Nat.add_zero] at g0 g1 g2; simp only [Nat.one_mul] at p0 p1 p2; (have hcI : (2 : Int) ≤ (cp : Int) := by omega); have HO : Hid (Ok w) := hok; have hW : ∃ W, W = w.alloc (.cells #[.int .i64 k, .string ⟨#[]⟩, .slice (some ⟨b, off, none⟩) 2 cp] 37 (0, 0)) := ⟨_, rfl⟩; have zb := lt_of_cell p0
    have HQ : Hid (∀ w1, Below (w.alloc (.cells #[.int .i64 k, .string ⟨#[]⟩, .slice (some ⟨b, off, none⟩) 2 cp] 37 (0, 0))).heap.size (w.alloc (.cells #[.int .i64 k, .string ⟨#[]⟩, .slice (some ⟨b, off, none⟩) 2 cp] 37 (0, 0))) w1 → w1.cell? ⟨w.heap.size, 2, none⟩ = some (.slice (some ⟨b, off, none⟩) 2 cp) ∧ w1.cell? ⟨b, off + 3, none⟩ = some (.int .i64 k3) ∧ w1.cell? ⟨b, off + 3 + 1, none⟩ = some (.string n3) ∧ w1.cell? ⟨b, off + 3 + 2, none⟩ = some (.slice sl3 ks3.length cap3)) := fun w1 hb1 => ⟨by
      have := blk_cell (below_keep hb1 q0) 2
      simpa using this, (hb1.cell (p := ⟨b, off + 3, none⟩) zb).trans p0, (hb1.cell (p := ⟨b, off + 3 + 1, none⟩) zb).trans p1, (hb1.cell (p := ⟨b, off + 3 + 2, none⟩) zb).trans p2⟩
    clear hfi hpl hrep hrs hca hca' hg hg' hok q0 hW zb
    rcases hk with rfl | rfl | rfl
    all_goals
      cases bb
      all_goals
        go_enter Try.func52, Try.ntmps52
        go_wp2_with (first
          | (go_at_call 52
             have hb0 := B1; refine (HC'.out _ _ (hrep3.up hb1) (HU.out HO.out B1)).mono ?_; rintro e w2 ⟨rfl, hb2⟩
             have B2 := below_join B1 hb2)
          | (go_at_call 52
             refine (HC.out _ _ hrep2 (HU.out HO.out B0)).mono ?_; rintro e w1 ⟨rfl, hb1⟩; have B1 := below_join B0 hb1
             obtain ⟨y0, y1, y2, y3⟩ := HQ.out _ hb1)
          | fail)
        go_ret
        first
        | exact ⟨by first | rw [HT.out.1] | rw [HT.out.2.1] | rw [HT.out.2.2]
                    simp, B2⟩
        | exact ⟨by first | rw [HT.out.1] | rw [HT.out.2.1] | rw [HT.out.2.2]
                    simp, B1⟩

theorem trues_all {fn : Nat} {cap : Array Value} {p : List UInt8 → Bool} {Ok : World → Prop} (A : Asks fn cap p Ok) : ∀ m, Trues fn cap p Ok m
  | 0 => fun _ _ _ h => absurd h (Nat.not_lt_zero _)
  | m + 1 => true_step A m (trues_all A m)

theorem isTrue_any {fn : Nat} {cap : Array Value} {p : List UInt8 → Bool} {Ok : World → Prop} (A : Asks fn cap p Ok) (f : Fm) (v : Value) (w : World) (hf : Fine f) (hp : Plain f) (hrep : Rep w (fun _ => True) f v) (hok : Ok w) :
    Calls Try.prog 52 #[v, .func (.func fn) #[] cap] w fun e w' => e = .returned (.bool (tv p f)) ∧ Below w.heap.size w w' :=
  trues_all A (f.size + 1) f v w (Nat.lt_succ_self _) hf hp hrep hok
end Go.Proofs.Ytffkoiemnchdgab
