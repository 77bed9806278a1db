/- Texts of one proof, one behind the other: Open7, ME4, NTL. -/
import Derived.Test.YtealalhgkdlmkaiB09
import Derived.OpenShut
import Derived.Test.YtealalhgkdlmkaiB01
import Derived.Laws.BitsLemmas
import Derived.Deep.LoopGhost
import Derived.Test.YtealalhgkdlmkaiB03
import Derived.Deep.QuietTactic
import Derived.BigQuiet
import Derived.Test.YtealalhgkdlmkaiB05
/- An argument of type Model. -/
namespace Go.Proofs.Ytealalhgkdlmkai
open Go.RowKit

theorem cellsPr : Try.prog.cellsOf 57 = 2 := by kernel_rfl
theorem cellsN : Try.prog.cellsOf 3 = 1 := by kernel_rfl
theorem list_ofM {α : Type} {P : Nat → α → Prop} : ∀ (len : Nat), (∀ i, i < len → ∃ x, P i x) → ∃ l : List α, l.length = len ∧ ∀ (j : Nat) (x : α), l[j]? = some x → P j x
  | 0, _ => ⟨[], rfl, fun j x h => by simp at h⟩
  | len + 1, h => by
    (obtain ⟨l, hl, hp⟩ := list_ofM len fun i hi => h i (by omega)); (obtain ⟨x, hx⟩ := h len (by omega)); (refine ⟨l ++ [x], by simp [hl], fun j y hj => ?_⟩); by_cases e : j < len
    · rw [List.getElem?_append_left (by omega)] at hj
      exact hp j y hj
    · rw [List.getElem?_append_right (by omega)] at hj
      by_cases e2 : j = len
      · subst e2
        rw [hl, Nat.sub_self] at hj; simp at hj; rw [← hj]; exact hx
      · rw [List.getElem?_eq_none (by simp; omega)] at hj
        cases hj
section
variable {H : Type} {enc : TypeId × Value → H} {W : World} {spare : Nat → Bool} {held : Bool}

set_option maxRecDepth 100000 in
theorem pr_of_trod (fuel : Nat) (cs : List Value) (x : DataW H × List MemPlace) (h : DataW.trod enc Try.prog W 0 spare held fuel 57 cs = some x) : ∃ a b : Int, cs = [.int .i64 a, .int .i64 b] := by
  obtain ⟨xs, m, -, -, hl, hlen, hall⟩ := DataW.trod_array Try.underlying57 h; rw [cellsPr] at hl
  match cs, hl with
  | [c0, c1], _ =>
    match xs, hlen with
    | [y0, y1], _ =>
      (have h0 := hall 0 (by omega)); (have h1 := hall 1 (by omega)); simp [cellsN] at h0 h1; obtain ⟨k, e0, -, -⟩ := DataW.trod_int Try.underlying3 h0; obtain ⟨j, e1, -, -⟩ := DataW.trod_int Try.underlying3 h1; simp at e0 e1; subst e0 e1; exact ⟨k, j, rfl⟩
theorem pl_of_trod (fuel : Nat) (cs : List Value) (x : DataW H × List MemPlace) (h : DataW.trod enc Try.prog W 0 spare held fuel 23 cs = some x) :
    ∃ v rs, cs = [v] ∧ PL W v rs := by
  rcases DataW.trod_slice Try.underlying23 h with ⟨rfl, -⟩ | ⟨a, len, cap, elems, rest, m, hm, rfl, -, -, hlc, hcm, hel, hall, -⟩
  · exact ⟨_, [], rfl, none, 0, rfl, by simp, by simp, fun h => absurd rfl h⟩
  · obtain ⟨b, off, spot⟩ := a
    have rd : ∀ i, i < len → ∃ t : Int × Int, W.cell? ((⟨b, off, spot⟩ : Addr).add (i * 2)) = some (.int .i64 t.1) ∧ W.cell? (((⟨b, off, spot⟩ : Addr).add (i * 2)).add 1) = some (.int .i64 t.2) := fun i hi => by
      have hh := hall i hi; (rw [cellsPr, List.getElem?_eq_getElem (by omega)] at hh); obtain ⟨cs', hcs, htr⟩ := Option.bind_eq_some_iff.1 hh; obtain ⟨-, hl3, hcell⟩ := World.cells?_some hcs; obtain ⟨x, y, rfl⟩ := pr_of_trod _ _ _ htr; (have g0 := hcell 0 (by omega)); (have g1 := hcell 1 (by omega)); (exact ⟨(x, y), by simpa [Addr.add] using g0, by simpa [Addr.add] using g1⟩)
    by_cases hz : len = 0
    · subst hz
      (exact ⟨_, [], rfl, _, cap, rfl, by simp, hcm, fun h => absurd rfl h⟩)
    · have hsp : spot = none := by
        (obtain ⟨y, hy, -⟩ := rd 0 (by omega)); simp [Addr.add] at hy; simpa using World.cell?_spot hy
      subst hsp; obtain ⟨l, hl, hp⟩ := list_ofM len rd; subst hl; (refine ⟨_, l, rfl, _, cap, rfl, hlc, hcm, fun _ => ⟨b, off, rfl, fun j x y hj => ?_⟩⟩); have := hp j (x, y) hj; simp only [add_none] at this; exact this
end
end Go.Proofs.Ytealalhgkdlmkai
/- Walks: where a formula is true. -/
namespace Go.Proofs.Ytealalhgkdlmkai
open Go.RowKit

theorem blk_secE (w : World) (o o' : Obj) : ((w.alloc o).alloc o').heap[w.heap.size + 1]? = some o' := by
  have := blk_new (w.alloc o) o'
  rwa [show (w.alloc o).heap.size = w.heap.size + 1 by simp] at this
end Go.Proofs.Ytealalhgkdlmkai
/- Walks: what the laws' own yardstick does with linear formulas: VastLinear. -/
namespace Go.Proofs.Ytealalhgkdlmkai
open Go.RowKit

def VastsL (m : Nat) : Prop := ∀ (l : List Lm) (v : Value) (deep : Int) (w : World), Lm.sizes l < m → 0 ≤ deep → deep ≤ 3001 → LL w v l →
  Calls Try.prog 9 #[v, .int .i64 deep] w fun e w' => IsB e ∧ Below w.heap.size w w'
set_option maxHeartbeats 2000000 in
theorem vastL_step (m : Nat) (ih : VastsL m) : VastsL (m + 1) := by
  intro l v deep w hm hd0 hd hv; have HX : Hid (LL w v l) := hv; obtain ⟨sl, cap, rfl, hx2, hx3, -⟩ := hv; (have hlen : ((l.length : Nat) : Int) ≤ 9223372036854775807 := by unfold maxLen at hx3; omega); by_cases h1 : 3000 < deep
  · go_enter Try.func9, Try.ntmps9
    go_wp2_with fail; go_ret; exact ⟨⟨_, rfl⟩, Below.refl _ _⟩
  by_cases h2 : 3000 < l.length
  · have h2' : (3000 : Int) < (l.length : Int) := by omega
    go_enter Try.func9, Try.ntmps9
    go_wp2_with fail; go_ret; exact ⟨⟨_, rfl⟩, Below.refl _ _⟩
  (have h2' : (l.length : Int) ≤ 3000 := by omega); (have h1' : deep ≤ 3000 := by omega); clear h1 h2
  go_enter Try.func9, Try.ntmps9
  go_wp2_with fail
  go_loopg [5] l.length (fun g c wr => ∃ i, i ≤ l.length ∧ g = l.length - i ∧ c = .int .i64 (i : Nat) ∧ Hid (Below w.heap.size w wr))
  case atStart => exact ⟨0, by omega, by omega, rfl, Below.refl _ _⟩
  case round =>
    obtain ⟨i, hi, hg, rfl, HB⟩ := hrel; have HG : Hid (gk = l.length - i) := hg; clear hg; by_cases hlt : i < l.length
    · obtain ⟨⟨k2, n2, g2, ks2⟩, hki⟩ : ∃ f, l[i]? = some f := ⟨_, List.getElem?_eq_getElem hlt⟩
      obtain ⟨b, off, sl2, cap2, rfl, y0, y1, y2, y3, hr⟩ := (HX.out.up HB.out).at i k2 n2 g2 ks2 hki; (have hlt2 : (i : Int) < (l.length : Int) := by omega); (have hsz : Lm.sizes ks2 < m := by have := lsizes_get hki; rw [Lm.size] at this; omega); (have HI : Hid (Calls Try.prog 9 #[.slice sl2 ks2.length cap2, .int .i64 (deep + 1)] wr _) := ih ks2 _ (deep + 1) wr hsz (by omega) (by omega) hr.kidsL); clear hki hr y0 y1 y2; go_wp2_with fail; refine HI.out.mono ?_; rintro e w1 ⟨⟨bb, rfl⟩, hb1⟩
      cases bb
      · go_wp2_with fail
        go_roundg (l.length - (i + 1))
        case measure => have := HG.out; omega
        case rel => exact ⟨i + 1, by omega, rfl, by go_num, below_join HB.out hb1⟩
      · go_wp2_with fail
        go_ret; exact ⟨⟨_, rfl⟩, below_join HB.out hb1⟩
    · go_wp2_with fail
      go_ret; exact ⟨⟨_, rfl⟩, HB.out⟩
theorem vastsL_all : ∀ m, VastsL m
  | 0 => fun _ _ _ _ h => absurd h (Nat.not_lt_zero _)
  | m + 1 => vastL_step m (vastsL_all m)
theorem vastLinear_any (l : List Lm) (v : Value) (w : World) (hv : LL w v l) :
    Calls Try.prog 9 #[v, .int .i64 0] w fun e w' => IsB e ∧ Below w.heap.size w w' :=
  vastsL_all (Lm.sizes l + 1) l v 0 w (Nat.lt_succ_self _) (by omega) (by omega) hv
end Go.Proofs.Ytealalhgkdlmkai
