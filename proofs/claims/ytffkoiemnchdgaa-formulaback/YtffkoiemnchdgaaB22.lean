/- Texts of one proof, one behind the other: Ref1. -/
import Derived.Test.YtffkoiemnchdgaaB21
/- Walks: what the laws' own yardstick does with formulas. -/
namespace Go.Proofs.Ytffkoiemnchdgaa
open Go.RowKit

/-- A bool is answered. -/
def IsB (e : Ending) : Prop := ∃ b, e = .returned (.bool b)

def Vasts (m : Nat) : Prop := ∀ (f : Fm) (v : Value) (deep : Int) (w : World), f.size < m → 0 ≤ deep → deep ≤ 25001 → Rep w (fun _ => True) f v →
  Calls Try.prog 10 #[v, .int .i64 deep] w fun e w' => IsB e ∧ Below w.heap.size w w'

theorem Rep.up {w w' : World} {f : Fm} {v : Value} (h : Rep w (fun _ => True) f v) (hb : Below w.heap.size w w') : Rep w' (fun _ => True) f v :=
  h.move fun b hb1 _ => ⟨hb.block b hb1, trivial⟩
theorem Reps.up {w w' : World} {b off : Nat} {fs : List Fm} (h : Reps w (fun _ => True) b off fs) (hb : Below w.heap.size w w') : Reps w' (fun _ => True) b off fs :=
  h.kept trivial (kept_of_below hb (fun _ h _ => h))

set_option maxHeartbeats 1000000 in
theorem vast_step (m : Nat) (ih : Vasts m) : Vasts (m + 1) := by
  intro f v deep w hm hd0 hd hrep; obtain ⟨k, n, ks⟩ := f; obtain ⟨sl, cap, rfl, hx1, hx2, hx3, hx4⟩ := Rep.def.1 hrep; (have HX : Hid (ks ≠ [] → ∃ b off, sl = some ⟨b, off, none⟩ ∧ True ∧ Reps w (fun _ => True) b off ks) := hx4); clear hx4; have hb0 : Below w.heap.size w (w.alloc (.cells #[.int .i64 k, .string n, .slice sl ks.length cap] 24 (0, 0))) := (Below.refl _ _).alloc (Nat.le_refl _) _; (have hlen : ((ks.length : Nat) : Int) ≤ 9223372036854775807 := by unfold maxLen at hx3; omega); by_cases h1 : 25000 < deep
  · go_enter Try.func10, Try.ntmps10
    go_wp2_with fail; go_ret; exact ⟨⟨_, rfl⟩, hb0⟩
  · by_cases h2 : 25000 < ks.length
    · have h2' : (25000 : Int) < (ks.length : Int) := by omega
      go_enter Try.func10, Try.ntmps10
      go_wp2_with fail; go_ret; exact ⟨⟨_, rfl⟩, hb0⟩
    · have h2' : (ks.length : Int) ≤ 25000 := by omega
      (have h1' : deep ≤ 25000 := by omega); clear h1 h2
      go_enter Try.func10, Try.ntmps10
      go_wp2_with fail
      go_loopg [5] ks.length (fun g c wr => ∃ i, i ≤ ks.length ∧ g = ks.length - i ∧ c = .int .i64 (i : Nat) ∧ Below w.heap.size w wr ∧ wr.heap[w.heap.size]? = some (.cells #[.int .i64 k, .string n, .slice sl ks.length cap] 24 (0, 0)))
      case atStart => exact ⟨0, by omega, by omega, rfl, hb0, blk_new _ _⟩
      case round =>
        obtain ⟨i, hi, hg, rfl, hbr, q0⟩ := hrel; have HG : Hid (gk = ks.length - i) := hg; clear hg; have f2 := blk_cell q0 2; simp at f2; by_cases hlt : i < ks.length
        · obtain ⟨b, off, hsl, -, hrs⟩ := HX.out (fun e => by rw [e] at hlt; simp at hlt)
          subst hsl; obtain ⟨⟨k2, n2, ks2⟩, hki⟩ : ∃ f, ks[i]? = some f := ⟨_, List.getElem?_eq_getElem hlt⟩; obtain ⟨sl2, cap2, g0, g1, g2, hrep2⟩ := (hrs.up hbr).at i k2 n2 ks2 hki; (have hlt2 : (i : Int) < (ks.length : Int) := by omega); (have hsz : (Fm.mk k2 n2 ks2).size < m := by have := sizes_get hki; rw [Fm.size] at hm; omega); have z0 := lt_of_block q0; have zz := hbr.size; clear hki hrs hrep HX hb0
          go_wp2_with (first
            | (go_at_call 10
               (refine (ih _ _ _ _ hsz (by omega) (by omega) hrep2).mono ?_); rintro e w1 ⟨⟨bb, rfl⟩, hb1⟩
               cases bb)
            | fail)
          · have z1 := hb1.size
            go_roundg (ks.length - (i + 1))
            case measure => have := HG.out; omega
            case rel => exact ⟨i + 1, by omega, rfl, by go_num, hbr.trans (hb1.mono zz), (hb1.block _ z0).trans q0⟩
          · go_ret
            exact ⟨⟨_, rfl⟩, hbr.trans (hb1.mono zz)⟩
        · go_wp2_with fail
          go_ret; exact ⟨⟨_, rfl⟩, hbr⟩

theorem vasts_all : ∀ m, Vasts m
  | 0 => fun _ _ _ _ h => absurd h (Nat.not_lt_zero _)
  | m + 1 => vast_step m (vasts_all m)

theorem vast_any (f : Fm) (v : Value) (w : World) (hrep : Rep w (fun _ => True) f v) :
    Calls Try.prog 10 #[v, .int .i64 0] w fun e w' => IsB e ∧ Below w.heap.size w w' :=
  vasts_all (f.size + 1) f v 0 w (Nat.lt_succ_self _) (by omega) (by omega) hrep
end Go.Proofs.Ytffkoiemnchdgaa
