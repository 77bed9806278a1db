/- Texts of one proof, one behind the other: Vast2. -/
import Derived.Test.YtclinobfbdljhahB09
/- Walks: a formula that is not vast; cells that are formulas. -/
namespace Go.Proofs.Ytclinobfbdljhah
open Go.RowKit

/-- No node has more than 25000 kids. -/
inductive Slim : Fm → Prop
  | mk (k : Int) (n : ByteArray) (ks : List Fm) (h : ks.length ≤ 25000) (hk : ∀ (i : Nat) (f : Fm), ks[i]? = some f → Slim f) : Slim (.mk k n ks)
/-- A bool is answered; where it is false, the formula is no vast one. -/
def IsV (f : Fm) (e : Ending) : Prop := ∃ b, e = .returned (.bool b) ∧ (b = false → Slim f)

def Vasts2 (m : Nat) : Prop := ∀ (f : Fm) (v : Value) (deep : Int) (w : World), f.size < m → 0 ≤ deep → deep ≤ 25001 → Rep w (fun _ => True) f v →
  Calls Try.prog 8 #[v, .int .i64 deep] w fun e w' => IsV f e ∧ Below w.heap.size w w'

set_option maxHeartbeats 1000000 in
theorem vast2_step (m : Nat) (ih : Vasts2 m) : Vasts2 (m + 1) := by
  intro f v deep w hm hd0 hd hrep; obtain ⟨k, n, ks⟩ := f; obtain ⟨sl, cap, rfl, hx1, hx2, hx3, hx4⟩ := Rep.def.1 hrep; (have HX : Hid (ks ≠ [] → ∃ b off, sl = some ⟨b, off, none⟩ ∧ True ∧ Reps w (fun _ => True) b off ks) := hx4); clear hx4; have hb0 : Below w.heap.size w (w.alloc (.cells #[.int .i64 k, .string n, .slice sl ks.length cap] 24 (0, 0))) := (Below.refl _ _).alloc (Nat.le_refl _) _; (have hlen : ((ks.length : Nat) : Int) ≤ 9223372036854775807 := by unfold maxLen at hx3; omega); by_cases h1 : 25000 < deep
  · go_enter Try.func8, Try.ntmps8
    go_wp2_with fail; go_ret; (exact ⟨⟨_, rfl, fun h => by cases h⟩, hb0⟩)
  · by_cases h2 : 25000 < ks.length
    · have h2' : (25000 : Int) < (ks.length : Int) := by omega
      go_enter Try.func8, Try.ntmps8
      go_wp2_with fail; go_ret; (exact ⟨⟨_, rfl, fun h => by cases h⟩, hb0⟩)
    · have h2' : (ks.length : Int) ≤ 25000 := by omega
      (have h1' : deep ≤ 25000 := by omega); clear h1 h2
      go_enter Try.func8, Try.ntmps8
      go_wp2_with fail
      go_loopg [5] ks.length (fun g c wr => ∃ i, i ≤ ks.length ∧ g = ks.length - i ∧ c = .int .i64 (i : Nat) ∧ Below w.heap.size w wr ∧ wr.heap[w.heap.size]? = some (.cells #[.int .i64 k, .string n, .slice sl ks.length cap] 24 (0, 0)) ∧ Hid (∀ (j : Nat) (f : Fm), j < i → ks[j]? = some f → Slim f))
      case atStart => exact ⟨0, by omega, by omega, rfl, hb0, blk_new _ _, fun j f hj => absurd hj (Nat.not_lt_zero _)⟩
      case round =>
        obtain ⟨i, hi, hg, rfl, hbr, q0, HS⟩ := hrel; have HG : Hid (gk = ks.length - i) := hg; clear hg; have f2 := blk_cell q0 2; simp at f2; by_cases hlt : i < ks.length
        · obtain ⟨b, off, hsl, -, hrs⟩ := HX.out (fun e => by rw [e] at hlt; simp at hlt)
          subst hsl; obtain ⟨⟨k2, n2, ks2⟩, hki⟩ : ∃ f, ks[i]? = some f := ⟨_, List.getElem?_eq_getElem hlt⟩; obtain ⟨sl2, cap2, g0, g1, g2, hrep2⟩ := (hrs.up hbr).at i k2 n2 ks2 hki; (have hlt2 : (i : Int) < (ks.length : Int) := by omega); (have hsz : (Fm.mk k2 n2 ks2).size < m := by have := sizes_get hki; rw [Fm.size] at hm; omega); have z0 := lt_of_block q0; have zz := hbr.size; have HK : Hid (ks[i]? = some (.mk k2 n2 ks2)) := hki; clear hki hrs hrep HX hb0
          go_wp2_with (first
            | (go_at_call 8
               (refine (ih _ _ _ _ hsz (by omega) (by omega) hrep2).mono ?_); rintro e w1 ⟨⟨bb, rfl, hbb⟩, hb1⟩; have HB : Hid (bb = false → Slim (.mk k2 n2 ks2)) := hbb; clear hbb
               cases bb)
            | fail)
          · have z1 := hb1.size
            go_roundg (ks.length - (i + 1))
            case measure => have := HG.out; omega
            case rel =>
              (refine ⟨i + 1, by omega, rfl, by go_num, hbr.trans (hb1.mono zz), (hb1.block _ z0).trans q0, fun j f hj hf => ?_⟩)
              rcases Nat.lt_or_ge j i with h | h
              · exact HS.out j f h hf
              · obtain rfl : j = i := by omega
                have := HK.out.symm.trans hf; obtain rfl := Option.some.inj this; exact HB.out trivial
          · go_ret
            (exact ⟨⟨_, rfl, fun h => by cases h⟩, hbr.trans (hb1.mono zz)⟩)
        · go_wp2_with fail
          go_ret; (refine ⟨⟨_, rfl, fun _ => Slim.mk k n ks (by omega) fun j f hf => HS.out j f ?_ hf⟩, hbr⟩)
          rcases Nat.lt_or_ge j ks.length with h | h
          · omega
          · rw [List.getElem?_eq_none h] at hf; cases hf

theorem vasts2_all : ∀ m, Vasts2 m
  | 0 => fun _ _ _ _ h => absurd h (Nat.not_lt_zero _)
  | m + 1 => vast2_step m (vasts2_all m)

theorem vast2_any (f : Fm) (v : Value) (w : World) (hrep : Rep w (fun _ => True) f v) :
    Calls Try.prog 8 #[v, .int .i64 0] w fun e w' => IsV f e ∧ Below w.heap.size w w' :=
  vasts2_all (f.size + 1) f v 0 w (Nat.lt_succ_self _) (by omega) (by omega) hrep

end Go.Proofs.Ytclinobfbdljhah
