/- Texts of one proof, one behind the other: Law1, Back1, Open1, Walk0, Read1. -/
import Derived.Test.YtffkoiemnchdgaaB16
import Derived.Test.YtffkoiemnchdgaaB07
import Derived.ProofKit
import Derived.Deep.Strs
import Derived.Deep.Slices
import Derived.Lib.SmallJoins
import Derived.Deep.DeepCutAuto
import Derived.Deep.CutBlock
import Derived.Deep.AppendLies
/- Walks: what the laws lean on. -/
namespace Go.Proofs.Ytffkoiemnchdgaa
open Go.RowKit

theorem parse_back (f : Fm) (s : Nat) (hc : chk f 0 = .ok s) (w : World) :
    Calls Try.prog 17 #[.string ⟨(pr 0 f).toArray⟩] w fun e w' => ∃ v, e = .returned (.tuple #[v, .agg #[.int .i64 0, .int .i64 0]]) ∧ Rep w' (w.heap.size ≤ ·) f v ∧ Below w.heap.size w w' := by
  have hf := fine_of_chk f 0 s hc; have hs := chk_size hc; have hl := pr_len 200 f 0 hs hf; have hsz : (⟨(pr 0 f).toArray⟩ : ByteArray).size = (pr 0 f).length := rfl; (refine parse_ok ⟨(pr 0 f).toArray⟩ (by omega) w (.ok f []) (read_back hf) f ?_); (have h2 : ¬ 200 < f.size := by omega); simp [outOf, skipB, h2]

/-- The document's example. -/
def f0 : Fm := .mk 7 e0 [.mk 7 e0 [nmF [112], nmF [113]], .mk 5 e0 [nmF [112], .mk 4 e0 [.mk 2 e0 []]]]
theorem f0_fine : Fine f0 := fine_two 7 _ _ (by simp) (fine_two 7 _ _ (by simp) (fine_name (by decide)) (fine_name (by decide))) (fine_two 5 _ _ (by simp) (fine_name (by decide)) (fine_one 4 _ (by simp) (fine_leaf 2 (by simp))))
theorem f0_size : f0.size = 8 := by simp [f0, nmF, Fm.size, Fm.sizes]
theorem f0_pr : pr 0 f0 = [40, 112, 32, 45, 62, 32, 113, 41, 32, 45, 62, 32, 112, 32, 38, 32, 126, 49] := by
  simp [f0, nmF, pr, brk, bindI, sign1, sign2, leftB, rightB, leafS]
theorem f0_chk : chk f0 0 = .ok 8 := by
  (have := chk_fine f0 0 f0_fine (by rw [f0_size]; omega))
  rwa [f0_size] at this

set_option maxHeartbeats 1000000 in
theorem begun_any (w : World) : Calls Try.prog 9 #[] w fun e w' => e = .returned (.bool true) ∧ Below w.heap.size w w' := by
  have hp := parse_back f0 8 f0_chk; rw [f0_pr] at hp; (have hq := fun v w h => print_ok f0 v w h 8 f0_chk); rw [f0_pr] at hq; obtain ⟨k, n, ks, hf0⟩ : ∃ k n ks, f0 = .mk k n ks := ⟨_, _, _, rfl⟩; rw [hf0] at hp hq; have HP : Hid (∀ w, Calls Try.prog 17 _ w _) := hp; have HQ : Hid (∀ v w, _ → Calls Try.prog 13 #[v] w _) := hq; clear hp hq hf0
  go_enter Try.func9, Try.ntmps9
  go_wp2_with (first
    | (go_at_call 17
       refine (HP.out _).mono ?_; rintro e w1 ⟨v, rfl, hrep, hb1⟩
       obtain ⟨sl, cap, rfl⟩ := slice_shape hrep)
    | (go_at_call 13
       (refine (HQ.out _ _ (hrep.move fun b hb _ => ⟨by rw [Below.heap_alloc _ _ _ (by simp; omega), Below.heap_alloc _ _ _ hb], trivial⟩)).mono ?_); rintro e w2 ⟨rfl, hb2⟩; have z1 := hb1.size; have z2 := hb2.size; simp at z2
       have q1 : w2.heap[w1.heap.size + 1]? = some (.cells #[.int .i64 0, .int .i64 0] 29 (0, 0)) := by
         (rw [hb2.block _ (by simp)]); have := blk_new (w1.alloc (.cells #[.int .i64 k, .string n, .slice sl ks.length cap] 24 (0, 0))) (.cells #[.int .i64 0, .int .i64 0] 29 (0, 0)); simpa using this
       obtain ⟨k1, k2, k3, k4⟩ := blk2 q1
       have d3 : w1.heap.size + 1 < w2.heap.size := by omega)
    | fail)
  go_ret; (exact ⟨rfl, (((hb1.alloc z1 _).alloc (by simp; omega) _).trans (hb2.mono (by simp; omega))).alloc (by omega) _⟩)
end Go.Proofs.Ytffkoiemnchdgaa
/- Walks: FormulaBack. -/
namespace Go.Proofs.Ytffkoiemnchdgaa
open Go.RowKit

theorem below_keep {w w' : World} {k : Nat} {o : Obj} (hb : Below w.heap.size w w') (h : w.heap[k]? = some o) : w'.heap[k]? = some o := (hb.block k (lt_of_block h)).trans h
theorem alloc_keep {w : World} {k : Nat} {o : Obj} (h : w.heap[k]? = some o) (o' : Obj) : (w.alloc o').heap[k]? = some o := (Below.heap_alloc _ _ _ (lt_of_block h)).trans h
theorem below_join {W w w' : World} (h : Below W.heap.size W w) (hb : Below w.heap.size w w') : Below W.heap.size W w' := h.trans (hb.mono h.size)
theorem below_more {W w : World} (h : Below W.heap.size W w) (o : Obj) : Below W.heap.size W (w.alloc o) := h.alloc h.size o

theorem same_self (f : Fm) (v u : Value) (w : World) (hv : Rep w (fun _ => True) f v) (hu : Rep w (fun _ => True) f u) :
    Calls Try.prog 15 #[v, u] w fun e w' => e = .returned (.bool true) ∧ Below w.heap.size w w' := by
  have := same_any f f v u w hv hu
  rwa [sameB_refl] at this

theorem Rep.all {w : World} {ok : Nat → Prop} {f : Fm} {v : Value} (h : Rep w ok f v) : Rep w (fun _ => True) f v := h.move fun _ _ _ => ⟨rfl, trivial⟩
theorem Rep.more {w : World} {f : Fm} {v : Value} (h : Rep w (fun _ => True) f v) (o : Obj) : Rep (w.alloc o) (fun _ => True) f v := h.up ((Below.refl _ _).alloc (Nat.le_refl _) _)

end Go.Proofs.Ytffkoiemnchdgaa
/- A formula that came in, as data. -/
namespace Go.Proofs.Ytffkoiemnchdgaa
open Go.RowKit

theorem cells24 : Try.prog.cellsOf 24 = 3 := by kernel_rfl
theorem cells3 : Try.prog.cellsOf 3 = 1 := by kernel_rfl
theorem cells9 : Try.prog.cellsOf 9 = 1 := by kernel_rfl
theorem cells22 : Try.prog.cellsOf 22 = 1 := by kernel_rfl

theorem add_none (b off n : Nat) : (⟨b, off, none⟩ : Addr).add n = ⟨b, off + n, none⟩ := by
  (by_cases h : n = 0 <;> simp [Addr.add, h])

section
variable {H : Type} {enc : TypeId × Value → H} {W : World} {spare : Nat → Bool} {held : Bool}

/-- Cells that read as formulas, one behind the other. -/
theorem reps_of {b off len : Nat} (rd : ∀ i, i < len → ∃ c0 c1 c2 f, W.cell? ⟨b, off + i * 3, none⟩ = some c0 ∧ W.cell? ⟨b, off + i * 3 + 1, none⟩ = some c1 ∧ W.cell? ⟨b, off + i * 3 + 2, none⟩ = some c2 ∧ Rep W (fun _ => True) f (.agg #[c0, c1, c2])) :
    ∃ fs : List Fm, fs.length = len ∧ Reps W (fun _ => True) b off fs := by
  induction len generalizing off with
  | zero => exact ⟨[], rfl, Reps.nil⟩
  | succ len ih =>
    (obtain ⟨c0, c1, c2, f, h0, h1, h2, hr⟩ := rd 0 (by omega))
    obtain ⟨fs, hl, hrs⟩ := ih (off := off + 3) (fun i hi => by
      (obtain ⟨d0, d1, d2, g, k0, k1, k2, kr⟩ := rd (i + 1) (by omega)); (have e : off + (i + 1) * 3 = off + 3 + i * 3 := by omega); rw [e] at k0 k1 k2
      exact ⟨d0, d1, d2, g, k0, k1, k2, kr⟩)
    (exact ⟨f :: fs, by simp [hl], Reps.cons.2 ⟨⟨c0, c1, c2, by simpa using h0, by simpa using h1, by simpa using h2, hr⟩, hrs⟩⟩)

set_option maxRecDepth 100000 in
theorem rep_of_trod : ∀ (fuel : Nat) (cs : List Value) (x : DataW H × List MemPlace), DataW.trod enc Try.prog W 0 spare held fuel 24 cs = some x →
    ∃ c0 c1 c2 f, cs = [c0, c1, c2] ∧ Rep W (fun _ => True) f (.agg #[c0, c1, c2]) := by
  intro fuel
  induction fuel using Nat.strongRecOn with
  | _ fuel ih =>
    intro cs x h; obtain ⟨xs, n, hfu, -, hl, hlen, hf⟩ := DataW.trod_struct Try.underlying24 h; rw [cells24] at hl
    match cs, hl with
    | [c0, c1, c2], _ =>
      have h0 := hf 0 _ rfl; have h1 := hf 1 _ rfl; have h2 := hf 2 _ rfl; simp at hlen
      match xs, hlen with
      | [y0, y1, y2], _ =>
        simp [cells3, cells9, cells22] at h0 h1 h2; obtain ⟨k, e0, -, -⟩ := DataW.trod_int Try.underlying3 h0; obtain ⟨s, e1, -, hs⟩ := DataW.trod_string Try.underlying9 h1; simp at e0 e1; subst e0 e1
        rcases DataW.trod_slice Try.underlying22 h2 with ⟨e2, -⟩ | ⟨a, len, cap, elems, rest, m, hm, e2, -, -, hlc, hcm, hel, hall, -⟩
        · simp at e2
          subst e2; exact ⟨_, _, _, .mk k s [], rfl, Rep.leaf hs⟩
        · simp at e2
          subst e2; obtain ⟨b, off, spot⟩ := a; by_cases hz : len = 0
          · subst hz
            (exact ⟨_, _, _, .mk k s [], rfl, Rep.def.2 ⟨_, cap, rfl, hs, Nat.zero_le _, hcm, fun h => absurd rfl h⟩⟩)
          · have hsp : spot = none := by
              (have hh := hall 0 (by omega)); (rw [cells24, List.getElem?_eq_getElem (by omega)] at hh); obtain ⟨cs', hcs, htr⟩ := Option.bind_eq_some_iff.1 hh; obtain ⟨-, hl3, hcell⟩ := World.cells?_some hcs; (obtain ⟨d0, d1, d2, f, rfl, -⟩ := ih m (by omega) cs' _ htr); (have g0 := hcell 0 (by omega)); simp [Addr.add] at g0; simpa using World.cell?_spot g0
            subst hsp
            obtain ⟨fs, hfl, hrs⟩ := reps_of (W := W) (b := b) (off := off) (len := len) (fun i hi => by
              have hh := hall i hi; (rw [cells24, List.getElem?_eq_getElem (by omega), add_none] at hh); obtain ⟨cs', hcs, htr⟩ := Option.bind_eq_some_iff.1 hh; obtain ⟨-, hl3, hcell⟩ := World.cells?_some hcs; (obtain ⟨d0, d1, d2, f, rfl, hr⟩ := ih m (by omega) cs' _ htr); (have g0 := hcell 0 (by omega)); (have g1 := hcell 1 (by omega)); (have g2 := hcell 2 (by omega)); rw [add_none] at g0 g1 g2
              exact ⟨d0, d1, d2, f, g0, g1, g2, hr⟩)
            subst hfl; (exact ⟨_, _, _, .mk k s fs, rfl, Rep.def.2 ⟨_, cap, rfl, hs, hlc, hcm, fun _ => ⟨b, off, rfl, trivial, hrs⟩⟩⟩)
end
end Go.Proofs.Ytffkoiemnchdgaa
/- Walks: a formula's nodes in a list. -/
namespace Go.Proofs.Ytffkoiemnchdgaa
open Go.RowKit

theorem owns_up {w w' : World} {B size n : Nat} {e : TypeId} {v : Value} {xs : List Value} (h : w.ownsRow B e size v n xs) (hb : Below w.heap.size w w') : w'.ownsRow B e size v n xs := by
  obtain ⟨h1, h2⟩ := h; refine ⟨h1, ?_⟩
  rcases h2 with h2 | ⟨g, cap, cur, hv, hg, hh, r⟩
  · exact Or.inl h2
  · exact Or.inr ⟨g, cap, cur, hv, hg, below_keep hb hh, r⟩

theorem infoFormula : ∃ i, Try.prog.info? 24 = some i ∧ i.zero = some (.agg #[.int .i64 0, .string ⟨#[]⟩, .slice none 0 0]) ∧ i.size = 3 ∧ i.bytes = 48 := by
  (obtain ⟨i, hi, h⟩ := Option.map_eq_some_iff.1 (show (Try.prog.info? 24).map (fun i => (i.zero, i.size, i.bytes)) = some (some (.agg #[.int .i64 0, .string ⟨#[]⟩, .slice none 0 0]), 3, 48) by kernel_rfl)); simp only [Prod.mk.injEq] at h; exact ⟨i, hi, h.1, h.2.1, h.2.2⟩

end Go.Proofs.Ytffkoiemnchdgaa
/- Walks: the yardstick's Read. -/
namespace Go.Proofs.Ytffkoiemnchdgaa
open Go.RowKit

/-- What is left when two results are set: of a formula's and of a fault's block. -/
theorem two_set {W w : World} {a b : Nat} (hab : a ≠ b) (haW : W.heap.size ≤ a) (hbW : W.heap.size ≤ b) {x0 x1 x2 y0 y1 : Value} {S T : TypeId} (q1 : w.heap[a]? = some (.cells #[x0, x1, x2] S (0, 0))) (q2 : w.heap[b]? = some (.cells #[y0, y1] T (0, 0))) (hB : Below W.heap.size W w) (u0 u1 u2 v0 v1 : Value) :
    (((((w.setCell ⟨a, 0, none⟩ u0).setCell ⟨a, 1, none⟩ u1).setCell ⟨a, 2, none⟩ u2).setCell ⟨b, 0, none⟩ v0).setCell ⟨b, 1, none⟩ v1).heap[a]? = some (.cells #[u0, u1, u2] S (0, 0)) ∧
    (((((w.setCell ⟨a, 0, none⟩ u0).setCell ⟨a, 1, none⟩ u1).setCell ⟨a, 2, none⟩ u2).setCell ⟨b, 0, none⟩ v0).setCell ⟨b, 1, none⟩ v1).heap[b]? = some (.cells #[v0, v1] T (0, 0)) ∧
    Below W.heap.size W (((((w.setCell ⟨a, 0, none⟩ u0).setCell ⟨a, 1, none⟩ u1).setCell ⟨a, 2, none⟩ u2).setCell ⟨b, 0, none⟩ v0).setCell ⟨b, 1, none⟩ v1) ∧
    (∀ k, k ≠ a → k ≠ b → (((((w.setCell ⟨a, 0, none⟩ u0).setCell ⟨a, 1, none⟩ u1).setCell ⟨a, 2, none⟩ u2).setCell ⟨b, 0, none⟩ v0).setCell ⟨b, 1, none⟩ v1).heap[k]? = w.heap[k]?) := by
  refine ⟨?_, ?_, ?_, ?_⟩
  · rw [Below.heap_setCell _ _ _ _ (fun e => hab (by simpa using e)), Below.heap_setCell _ _ _ _ (fun e => hab (by simpa using e))]
    exact set3 q1 _ _ _
  · apply set2
    (rw [Below.heap_setCell _ _ _ _ (fun e => hab (by simpa using e.symm)), Below.heap_setCell _ _ _ _ (fun e => hab (by simpa using e.symm)), Below.heap_setCell _ _ _ _ (fun e => hab (by simpa using e.symm))]); exact q2
  · exact ((((hB.setCell (p := ⟨a, 0, none⟩) haW _).setCell (p := ⟨a, 1, none⟩) haW _).setCell (p := ⟨a, 2, none⟩) haW _).setCell (p := ⟨b, 0, none⟩) hbW _).setCell (p := ⟨b, 1, none⟩) hbW _
  · intro k h1 h2
    rw [Below.heap_setCell _ _ _ _ h2, Below.heap_setCell _ _ _ _ h2, Below.heap_setCell _ _ _ _ h1, Below.heap_setCell _ _ _ _ h1, Below.heap_setCell _ _ _ _ h1]

end Go.Proofs.Ytffkoiemnchdgaa
