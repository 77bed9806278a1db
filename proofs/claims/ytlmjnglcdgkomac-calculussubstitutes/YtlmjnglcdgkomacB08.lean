/- Texts of one proof, one behind the other: Print1, Print3, Print4, Ref1, Ref2, Back1, Open1, Tok1. -/
import Derived.Test.YtlmjnglcdgkomacB05
import Derived.Test.YtlmjnglcdgkomacB03
import Derived.Lib.Builder
import Derived.Lib.AppendStr
import Derived.Lib.UnsafeStr
import Derived.Laws.Externs
import Derived.ProofKit
import Derived.Deep.Strs
import Derived.Deep.Slices
import Derived.Lib.SmallJoins
/- Walks: the writer. -/
namespace Go.Proofs.Ytlmjnglcdgkomac
open Go.RowKit

theorem Rep.low {w w' : World} {B : Nat} {f : Fm} {v : Value} (h : Rep w (· < B) f v) (hb : Below B w w') : Rep w' (· < B) f v :=
  h.move fun b _ hb2 => ⟨hb.block b hb2, hb2⟩

theorem Reps.low {w w' : World} {B b off : Nat} {fs : List Fm} (h : Reps w (· < B) b off fs) (hb : b < B) (hk : Below B w w') : Reps w' (· < B) b off fs :=
  h.kept hb (kept_of_below hk (fun _ _ h => h))

end Go.Proofs.Ytlmjnglcdgkomac
/- Walks: the writer, three. -/
namespace Go.Proofs.Ytlmjnglcdgkomac
open Go.RowKit

theorem slice_shape {w : World} {ok : Nat → Prop} {k : Int} {n : ByteArray} {ks : List Fm} {v : Value} (h : Rep w ok (.mk k n ks) v) : ∃ sl cap, v = .agg #[.int .i64 k, .string n, .slice sl ks.length cap] := by
  obtain ⟨sl, cap, hv, _⟩ := Rep.def.1 h; exact ⟨sl, cap, hv⟩

end Go.Proofs.Ytlmjnglcdgkomac
/- Walks: Print. -/
namespace Go.Proofs.Ytlmjnglcdgkomac
open Go.RowKit

theorem chk_size {f : Fm} {s : Nat} (h : chk f 0 = .ok s) : f.size ≤ 200 := by have := chk_le f 0 s h (by omega); omega

end Go.Proofs.Ytlmjnglcdgkomac
/- Walks: what the laws' own yardstick does with formulas. -/
namespace Go.Proofs.Ytlmjnglcdgkomac
open Go.RowKit

theorem Rep.up {w w' : World} {f : Fm} {v : Value} (h : Rep w (fun _ => True) f v) (hb : Below w.heap.size w w') : Rep w' (fun _ => True) f v :=
  h.move fun b hb1 _ => ⟨hb.block b hb1, trivial⟩
theorem Reps.up {w w' : World} {b off : Nat} {fs : List Fm} (h : Reps w (fun _ => True) b off fs) (hb : Below w.heap.size w w') : Reps w' (fun _ => True) b off fs :=
  h.kept trivial (kept_of_below hb (fun _ h _ => h))

end Go.Proofs.Ytlmjnglcdgkomac
/- Walks: Same. -/
namespace Go.Proofs.Ytlmjnglcdgkomac
open Go.RowKit

mutual
def sameB : Fm → Fm → Bool
  | .mk k n ks, g => decide (k = g.kind) && decide (n.data.toList = g.name.data.toList) && decide (ks.length = g.kids.length) && sameBs ks g.kids
def sameBs : List Fm → List Fm → Bool
  | [], _ => true
  | _ :: _, [] => true
  | f :: fs, g :: gs => sameB f g && sameBs fs gs
end

mutual
theorem sameB_refl : ∀ f : Fm, sameB f f = true
  | .mk k n ks => by rw [sameB]; simp [Fm.kind, Fm.name, Fm.kids, sameBs_refl ks]
theorem sameBs_refl : ∀ fs : List Fm, sameBs fs fs = true
  | [] => by rw [sameBs]
  | f :: fs => by rw [sameBs, sameB_refl f, sameBs_refl fs]; rfl
end

mutual
theorem sameB_eq : ∀ f g : Fm, sameB f g = true → f = g
  | .mk k n ks, .mk k' n' ks', h => by
    rw [sameB] at h; simp only [Fm.kind, Fm.name, Fm.kids, Bool.and_eq_true] at h; obtain ⟨⟨⟨h1, h2⟩, h3⟩, h4⟩ := h
    replace h1 := of_decide_eq_true h1
    replace h2 := of_decide_eq_true h2
    replace h3 := of_decide_eq_true h3
    have h5 := sameBs_eq ks ks' h3 h4; subst h1 h5; (have h6 : n = n' := by apply ByteArray.ext; apply Array.ext'; exact h2); rw [h6]
theorem sameBs_eq : ∀ fs gs : List Fm, fs.length = gs.length → sameBs fs gs = true → fs = gs
  | [], [], _, _ => rfl
  | [], _ :: _, h, _ => by simp at h
  | _ :: _, [], h, _ => by simp at h
  | f :: fs, g :: gs, h, h' => by
    rw [sameBs, Bool.and_eq_true] at h'; (rw [sameB_eq f g h'.1, sameBs_eq fs gs (by simpa using h) h'.2])
end

theorem sameBs_drop {fs gs : List Fm} {i : Nat} {f g : Fm} (hf : fs[i]? = some f) (hg : gs[i]? = some g) : sameBs (fs.drop i) (gs.drop i) = (sameB f g && sameBs (fs.drop (i + 1)) (gs.drop (i + 1))) := by
  have aux : ∀ {l : List Fm} {x : Fm}, l[i]? = some x → l.drop i = x :: l.drop (i + 1) := fun {l x} h => by
    have hi : i < l.length := by
      rcases Nat.lt_or_ge i l.length with h' | h'
      · exact h'
      · rw [List.getElem?_eq_none h'] at h; cases h
    rw [List.drop_eq_getElem_cons hi]; rw [List.getElem?_eq_getElem hi] at h; rw [Option.some.inj h]
  rw [aux hf, aux hg, sameBs]

end Go.Proofs.Ytlmjnglcdgkomac
/- Walks: FormulaBack. -/
namespace Go.Proofs.Ytlmjnglcdgkomac
open Go.RowKit

theorem below_keep {w w' : World} {k : Nat} {o : Obj} (hb : Below w.heap.size w w') (h : w.heap[k]? = some o) : w'.heap[k]? = some o := (hb.block k (lt_of_block h)).trans h
theorem alloc_keep {w : World} {k : Nat} {o : Obj} (h : w.heap[k]? = some o) (o' : Obj) : (w.alloc o').heap[k]? = some o := (Below.heap_alloc _ _ _ (lt_of_block h)).trans h
theorem below_join {W w w' : World} (h : Below W.heap.size W w) (hb : Below w.heap.size w w') : Below W.heap.size W w' := h.trans (hb.mono h.size)
theorem below_more {W w : World} (h : Below W.heap.size W w) (o : Obj) : Below W.heap.size W (w.alloc o) := h.alloc h.size o

theorem Rep.all {w : World} {ok : Nat → Prop} {f : Fm} {v : Value} (h : Rep w ok f v) : Rep w (fun _ => True) f v := h.move fun _ _ _ => ⟨rfl, trivial⟩
theorem Rep.more {w : World} {f : Fm} {v : Value} (h : Rep w (fun _ => True) f v) (o : Obj) : Rep (w.alloc o) (fun _ => True) f v := h.up ((Below.refl _ _).alloc (Nat.le_refl _) _)

end Go.Proofs.Ytlmjnglcdgkomac
/- A formula that came in, as data. -/
namespace Go.Proofs.Ytlmjnglcdgkomac
open Go.RowKit

theorem cells24 : Try.prog.cellsOf 24 = 3 := by kernel_rfl
theorem cells3 : Try.prog.cellsOf 3 = 1 := by kernel_rfl
theorem cells9 : Try.prog.cellsOf 9 = 1 := by kernel_rfl
theorem cells22 : Try.prog.cellsOf 22 = 1 := by kernel_rfl

theorem add_none (b off n : Nat) : (⟨b, off, none⟩ : Addr).add n = ⟨b, off + n, none⟩ := by
  (by_cases h : n = 0 <;> simp [Addr.add, h])

section
variable {H : Type} {enc : TypeId × Value → H} {W : World} {spare : Nat → Bool} {held : Bool}

/-- Cells that read as formulas, one behind the other. -/
theorem reps_of {b off len : Nat} (rd : ∀ i, i < len → ∃ c0 c1 c2 f, W.cell? ⟨b, off + i * 3, none⟩ = some c0 ∧ W.cell? ⟨b, off + i * 3 + 1, none⟩ = some c1 ∧ W.cell? ⟨b, off + i * 3 + 2, none⟩ = some c2 ∧ Rep W (fun _ => True) f (.agg #[c0, c1, c2])) :
    ∃ fs : List Fm, fs.length = len ∧ Reps W (fun _ => True) b off fs := by
  induction len generalizing off with
  | zero => exact ⟨[], rfl, Reps.nil⟩
  | succ len ih =>
    (obtain ⟨c0, c1, c2, f, h0, h1, h2, hr⟩ := rd 0 (by omega))
    obtain ⟨fs, hl, hrs⟩ := ih (off := off + 3) (fun i hi => by
      (obtain ⟨d0, d1, d2, g, k0, k1, k2, kr⟩ := rd (i + 1) (by omega)); (have e : off + (i + 1) * 3 = off + 3 + i * 3 := by omega); rw [e] at k0 k1 k2
      exact ⟨d0, d1, d2, g, k0, k1, k2, kr⟩)
    (exact ⟨f :: fs, by simp [hl], Reps.cons.2 ⟨⟨c0, c1, c2, by simpa using h0, by simpa using h1, by simpa using h2, hr⟩, hrs⟩⟩)

set_option maxRecDepth 100000 in
theorem rep_of_trod : ∀ (fuel : Nat) (cs : List Value) (x : DataW H × List MemPlace), DataW.trod enc Try.prog W 0 spare held fuel 24 cs = some x →
    ∃ c0 c1 c2 f, cs = [c0, c1, c2] ∧ Rep W (fun _ => True) f (.agg #[c0, c1, c2]) := by
  intro fuel
  induction fuel using Nat.strongRecOn with
  | _ fuel ih =>
    intro cs x h; obtain ⟨xs, n, hfu, -, hl, hlen, hf⟩ := DataW.trod_struct Try.underlying24 h; rw [cells24] at hl
    match cs, hl with
    | [c0, c1, c2], _ =>
      have h0 := hf 0 _ rfl; have h1 := hf 1 _ rfl; have h2 := hf 2 _ rfl; simp at hlen
      match xs, hlen with
      | [y0, y1, y2], _ =>
        simp [cells3, cells9, cells22] at h0 h1 h2; obtain ⟨k, e0, -, -⟩ := DataW.trod_int Try.underlying3 h0; obtain ⟨s, e1, -, hs⟩ := DataW.trod_string Try.underlying9 h1; simp at e0 e1; subst e0 e1
        rcases DataW.trod_slice Try.underlying22 h2 with ⟨e2, -⟩ | ⟨a, len, cap, elems, rest, m, hm, e2, -, -, hlc, hcm, hel, hall, -⟩
        · simp at e2
          subst e2; exact ⟨_, _, _, .mk k s [], rfl, Rep.leaf hs⟩
        · simp at e2
          subst e2; obtain ⟨b, off, spot⟩ := a; by_cases hz : len = 0
          · subst hz
            (exact ⟨_, _, _, .mk k s [], rfl, Rep.def.2 ⟨_, cap, rfl, hs, Nat.zero_le _, hcm, fun h => absurd rfl h⟩⟩)
          · have hsp : spot = none := by
              (have hh := hall 0 (by omega)); (rw [cells24, List.getElem?_eq_getElem (by omega)] at hh); obtain ⟨cs', hcs, htr⟩ := Option.bind_eq_some_iff.1 hh; obtain ⟨-, hl3, hcell⟩ := World.cells?_some hcs; (obtain ⟨d0, d1, d2, f, rfl, -⟩ := ih m (by omega) cs' _ htr); (have g0 := hcell 0 (by omega)); simp [Addr.add] at g0; simpa using World.cell?_spot g0
            subst hsp
            obtain ⟨fs, hfl, hrs⟩ := reps_of (W := W) (b := b) (off := off) (len := len) (fun i hi => by
              have hh := hall i hi; (rw [cells24, List.getElem?_eq_getElem (by omega), add_none] at hh); obtain ⟨cs', hcs, htr⟩ := Option.bind_eq_some_iff.1 hh; obtain ⟨-, hl3, hcell⟩ := World.cells?_some hcs; (obtain ⟨d0, d1, d2, f, rfl, hr⟩ := ih m (by omega) cs' _ htr); (have g0 := hcell 0 (by omega)); (have g1 := hcell 1 (by omega)); (have g2 := hcell 2 (by omega)); rw [add_none] at g0 g1 g2
              exact ⟨d0, d1, d2, f, g0, g1, g2, hr⟩)
            subst hfl; (exact ⟨_, _, _, .mk k s fs, rfl, Rep.def.2 ⟨_, cap, rfl, hs, hlc, hcm, fun _ => ⟨b, off, rfl, trivial, hrs⟩⟩⟩)
end
end Go.Proofs.Ytlmjnglcdgkomac
/- Walks: the yardstick's names and tokens. -/
namespace Go.Proofs.Ytlmjnglcdgkomac
open Go.RowKit

set_option maxHeartbeats 1000000 in
theorem refName_any (s : ByteArray) (hs : s.size ≤ maxLen) (w : World) :
    Calls Try.prog 12 #[.string s] w fun e w' => e = .returned (.bool (isNm s.data.toList)) ∧ w' = w := by
  have hsz : s.data.toList.length = s.size := Array.length_toList; unfold maxLen at hs; have HN : Hid (isNm s.data.toList = (allLow s.data.toList && decide (0 < s.data.toList.length) && decide (s.data.toList.length < 9))) := isNm_all _; have HZ : Hid (s.data.toList.length = s.size) := hsz; clear hsz
  go_enter Try.func12, Try.ntmps12
  go_wp2
  go_loop [3] (fun v => ∃ k l, At s k l ∧ v = .int .i64 (k : Nat) ∧ allLow s.data.toList = allLow l) (fun v => s.size - (intOf v).toNat)
  case atStart => exact ⟨0, s.data.toList, ⟨Nat.zero_le _, by simp⟩, rfl, rfl⟩
  case round =>
    obtain ⟨k, l, ha, rfl, hl⟩ := hrel; have hlen := ha.len; have HL : Hid (At s k l ∧ allLow s.data.toList = allLow l) := ⟨ha, hl⟩; clear ha hl
    cases l with
    | nil =>
      simp at hlen; (have hd : decide ((k : Int) < (s.size : Int)) = false := by simp; omega); go_wp2
      all_goals
        go_ret; refine ⟨ret_bool ?_, rfl⟩; rw [HN.out, HL.out.2, HZ.out]; rw [Bool.eq_iff_iff]; simp only [allLow, List.all_nil, Bool.true_and, Bool.and_eq_true, decide_eq_true_eq, Bool.false_eq_true, false_iff]
        omega
    | cons c l =>
      simp at hlen; (have hlt' : k < s.size := by omega); (have hlt : (k : Int) < (s.size : Int) := by omega); have hhd : s[k] = c := HL.out.1.head hlt'; by_cases hc : lower c
      · have hx : (97 : Int) ≤ (s[k].toNat : Int) := by rw [hhd]; simp [lower] at hc; omega
        (have hy : (s[k].toNat : Int) ≤ 122 := by rw [hhd]; simp [lower] at hc; omega); (have HM : Hid (At s (k + 1) l ∧ allLow s.data.toList = allLow l) := ⟨HL.out.1.cons, by rw [HL.out.2]; simp only [allLow, List.all_cons, hc, Bool.true_and]⟩); clear hhd hc; go_wp2
        go_round
        case rel => exact ⟨k + 1, l, HM.out.1, by go_num, HM.out.2⟩
        case measure => simp [intOf]; omega
      · have hx : ¬ ((97 : Int) ≤ (s[k].toNat : Int) ∧ (s[k].toNat : Int) ≤ 122) := by rw [hhd]; simp [lower] at hc; omega
        have HM : Hid (allLow s.data.toList = false) := by
          show _ = _; rw [HL.out.2]; simp only [allLow, List.all_cons, Bool.eq_false_iff.2 hc, Bool.false_and]
        clear hhd hc; go_wp2
        all_goals
          go_ret; refine ⟨ret_bool ?_, rfl⟩; rw [HN.out, HM.out]; rfl

end Go.Proofs.Ytlmjnglcdgkomac
