/- Texts of one proof, one behind the other: Check3, Print1, Print3, Print4, Ref1, Ref2, Back1, Open1, Tok1, Walk0. -/
import Derived.Test.YtmahgfgndfcmpahB04
import Derived.Test.YtmahgfgndfcmpahB01
import Derived.Lib.Builder
import Derived.Lib.AppendStr
import Derived.Lib.UnsafeStr
import Derived.Laws.Externs
import Derived.ProofKit
import Derived.Deep.Strs
import Derived.Deep.Slices
import Derived.Lib.SmallJoins
import Derived.Deep.DeepCutAuto
import Derived.Deep.CutBlock
import Derived.Deep.AppendLies
/- Walks: Check. -/
namespace Go.Proofs.Ytmahgfgndfcmpah
open Go.RowKit

theorem looks_all : ∀ m, Looks m
  | 0 => fun _ _ _ _ _ h => absurd h (Nat.not_lt_zero _)
  | m + 1 => look_step m (looks_all m)

theorem check1_in (cap : Array Value) (w : World) : (callFunc 26 cap).run Try.prog w = .ok (.enter 26 cap) w := by
  simp [go_sem]

set_option maxHeartbeats 1000000 in
theorem check1_any (bf : Nat) (k : Int) (n : ByteArray) (ks : List Fm) (sl : Option Addr) (cap : Nat) (w : World) (q0 : w.heap[bf]? = some (.cells #[.int .i64 k, .string n, .slice sl ks.length cap] 24 (0, 0)))
    (hrep : Rep w (fun _ => True) (.mk k n ks) (.agg #[.int .i64 k, .string n, .slice sl ks.length cap])) (x : Chk) (hx : chk (.mk k n ks) 0 = x) :
    Calls Try.prog 26 #[.pointer (some ⟨bf, 0, none⟩)] w fun e w' => Kept (fun _ => True) w w' ∧ match x with
      | .ok _ => e = .returned (.tuple #[])
      | .bad c a => e = .panicked (stopC c a) := by
  obtain ⟨g1, g2, g3, g4, g5, g6⟩ := blk3 q0; have z0 := lt_of_block q0
  have hl := looks_all ((Fm.mk k n ks).size + 1) w.heap.size 0 (.mk k n ks) (.agg #[.int .i64 k, .string n, .slice sl ks.length cap]) (w.alloc (.cells #[.int .i64 0] 68 (0, 0))) (Nat.lt_succ_self _) (blk_new _ _) (by omega)
    (hrep.move fun b hb _ => ⟨Below.heap_alloc _ _ _ hb, by omega⟩)
  rw [hx] at hl; have HL : Hid (Calls Try.prog 27 _ _ _) := hl; clear hl hrep
  cases x with
  | ok s =>
    go_enter Try.func26, Try.ntmps26
    go_wp2_with (first
      | (go_at_call 27
         refine HL.out.mono ?_
         rintro e w1 ⟨hk1, rfl, -⟩)
      | fail)
    go_end0
    exact ⟨hk1.past, rfl⟩
  | bad c a =>
    go_enter Try.func26, Try.ntmps26
    go_wp2_with (first
      | (go_at_call 27
         refine HL.out.mono ?_; rintro e w1 ⟨hk1, he⟩
         obtain rfl : e = _ := he)
      | fail)
    exact ⟨rfl, hk1.past, rfl⟩

theorem two_new {w : World} {o0 o1 o2 : Obj} : (((w.alloc o0).alloc o1).alloc o2).heap[w.heap.size]? = some o0 ∧ (((w.alloc o0).alloc o1).alloc o2).heap[w.heap.size + 1]? = some o1 := by
  (have e1 : (w.alloc o0).heap.size = w.heap.size + 1 := by simp); (have e2 : ((w.alloc o0).alloc o1).heap.size = w.heap.size + 2 := by simp); refine ⟨?_, ?_⟩
  · rw [Below.heap_alloc _ _ _ (by omega), Below.heap_alloc _ _ _ (by omega)]; exact blk_new _ _
  · rw [Below.heap_alloc _ _ _ (by omega), ← e1]; exact blk_new _ _

set_option maxHeartbeats 1000000 in
theorem check_any (f : Fm) (v : Value) (w : World) (hrep : Rep w (fun _ => True) f v) :
    Calls Try.prog 14 #[v] w fun e w' => e = .returned (.agg #[.int .i64 f.code.1, .int .i64 f.code.2]) ∧ Below w.heap.size w w' := by
  obtain ⟨k, n, ks⟩ := f; obtain ⟨sl, cap, rfl, hx1, hx2, hx3, hx4⟩ := Rep.def.1 hrep; clear hx4; (have hmf : ∀ (fn : Fn) (first cap : Array Value) (w : World), (Instr.makeFunc fn first cap).run Try.prog w = .ok (.func fn first cap) w := fun _ _ _ _ => rfl)
  rcases hx : chk (.mk k n ks) 0 with s | ⟨c, a⟩
  · have hcode : (Fm.mk k n ks).code = (0, 0) := by simp only [Fm.code, hx]
    rw [hcode]
    go_enter Try.func14, Try.ntmps14
    go_wp2_with (first
      | (go_at_call 25
         (refine (caught_ok 26 _ _ (fun w1 => w1.heap[w.heap.size + 1]? = some (.cells #[.int .i64 0, .int .i64 0] 32 (0, 0)) ∧ Below w.heap.size w w1) (check1_in _) ?_).mono ?_)
         · refine (check1_any w.heap.size k n ks sl cap _ two_new.1 (hrep.move fun b hb _ => ⟨by rw [Below.heap_alloc _ _ _ (by simp; omega), Below.heap_alloc _ _ _ (by simp; omega), Below.heap_alloc _ _ _ hb], trivial⟩) _ hx).mono ?_
           rintro e w1 ⟨hk, rfl⟩; (exact ⟨rfl, (hk.block _ (by simp) trivial).trans (blk_new _ _), (hk.block _ (by simp) trivial).trans two_new.2, ((((Kept.refl _ w).alloc _).alloc _).alloc _ |>.trans hk).below (Nat.le_refl _) (fun _ _ => trivial)⟩)
         rintro e w2 ⟨rfl, w1, ⟨q1, hb1⟩, hk2⟩; have z1 := lt_of_block q1; (have q3 := (hk2.block _ z1 (by simp)).trans q1)
         obtain ⟨k1, k2, k3, k4⟩ := blk2 q3)
      | fail)
    have hz := hb1.size; have hz2 := hk2.size; (have b1 : Below w.heap.size w w2 := ((kept_of_below (ok := fun k => k < w.heap.size) hb1 (fun _ _ h => h)).trans (hk2.mono (fun k _ h => by simp; omega))).below (Nat.le_refl _) (fun _ h => h)); have f2 := set2 q3 (.int .i64 0) (.int .i64 0); (have b2 := (b1.setCell (p := ⟨w.heap.size + 1, 0, none⟩) (by simp) (.int .i64 0)).setCell (p := ⟨w.heap.size + 1, 1, none⟩) (by simp) (.int .i64 0)); generalize World.setCell _ _ _ = F at f2 b2 ⊢; clear k1 k2 k3 k4; obtain ⟨k1, k2, -⟩ := blk2 f2; (exact bodyPost_ret (v := .agg #[.int .i64 0, .int .i64 0]) (by simp [results, Try.results14, go_sem, k1, k2]) rfl ⟨rfl, b2⟩)
  · have hcode : (Fm.mk k n ks).code = (c, (a : Int)) := by simp only [Fm.code, hx]
    rw [hcode]
    go_enter Try.func14, Try.ntmps14
    go_wp2_with (first
      | (go_at_call 25
         (refine (caught_bad 26 _ _ (fun w1 => w1.heap[w.heap.size + 1]? = some (.cells #[.int .i64 0, .int .i64 0] 32 (0, 0)) ∧ Below w.heap.size w w1) c a (check1_in _) ?_).mono ?_)
         · refine (check1_any w.heap.size k n ks sl cap _ two_new.1 (hrep.move fun b hb _ => ⟨by rw [Below.heap_alloc _ _ _ (by simp; omega), Below.heap_alloc _ _ _ (by simp; omega), Below.heap_alloc _ _ _ hb], trivial⟩) _ hx).mono ?_
           rintro e w1 ⟨hk, rfl⟩; (exact ⟨rfl, (hk.block _ (by simp) trivial).trans (blk_new _ _), (hk.block _ (by simp) trivial).trans two_new.2, ((((Kept.refl _ w).alloc _).alloc _).alloc _ |>.trans hk).below (Nat.le_refl _) (fun _ _ => trivial)⟩)
         rintro e w2 ⟨rfl, w1, ⟨q1, hb1⟩, hk2⟩; have z1 := lt_of_block q1; (have q3 := (hk2.block _ z1 (by simp)).trans q1)
         obtain ⟨k1, k2, k3, k4⟩ := blk2 q3)
      | fail)
    have hz := hb1.size; have hz2 := hk2.size; (have b1 : Below w.heap.size w w2 := ((kept_of_below (ok := fun k => k < w.heap.size) hb1 (fun _ _ h => h)).trans (hk2.mono (fun k _ h => by simp; omega))).below (Nat.le_refl _) (fun _ h => h)); have f2 := set2 q3 (.int .i64 c) (.int .i64 a); (have b2 := (b1.setCell (p := ⟨w.heap.size + 1, 0, none⟩) (by simp) (.int .i64 c)).setCell (p := ⟨w.heap.size + 1, 1, none⟩) (by simp) (.int .i64 a)); generalize World.setCell _ _ _ = F at f2 b2 ⊢; clear k1 k2 k3 k4; obtain ⟨k1, k2, -⟩ := blk2 f2; (exact bodyPost_ret (v := .agg #[.int .i64 c, .int .i64 a]) (by simp [results, Try.results14, go_sem, k1, k2]) rfl ⟨rfl, b2⟩)
end Go.Proofs.Ytmahgfgndfcmpah
/- Walks: the writer. -/
namespace Go.Proofs.Ytmahgfgndfcmpah
open Go.RowKit

theorem Rep.low {w w' : World} {B : Nat} {f : Fm} {v : Value} (h : Rep w (· < B) f v) (hb : Below B w w') : Rep w' (· < B) f v :=
  h.move fun b _ hb2 => ⟨hb.block b hb2, hb2⟩

theorem Reps.low {w w' : World} {B b off : Nat} {fs : List Fm} (h : Reps w (· < B) b off fs) (hb : b < B) (hk : Below B w w') : Reps w' (· < B) b off fs :=
  h.kept hb (kept_of_below hk (fun _ _ h => h))

end Go.Proofs.Ytmahgfgndfcmpah
/- Walks: the writer, three. -/
namespace Go.Proofs.Ytmahgfgndfcmpah
open Go.RowKit

theorem blk_new_drew (w : World) (o : Obj) : (w.alloc o).drew.heap[w.heap.size]? = some o := blk_new w o

theorem slice_shape {w : World} {ok : Nat → Prop} {k : Int} {n : ByteArray} {ks : List Fm} {v : Value} (h : Rep w ok (.mk k n ks) v) : ∃ sl cap, v = .agg #[.int .i64 k, .string n, .slice sl ks.length cap] := by
  obtain ⟨sl, cap, hv, _⟩ := Rep.def.1 h; exact ⟨sl, cap, hv⟩

end Go.Proofs.Ytmahgfgndfcmpah
/- Walks: Print. -/
namespace Go.Proofs.Ytmahgfgndfcmpah
open Go.RowKit

theorem chk_size {f : Fm} {s : Nat} (h : chk f 0 = .ok s) : f.size ≤ 200 := by have := chk_le f 0 s h (by omega); omega

end Go.Proofs.Ytmahgfgndfcmpah
/- Walks: what the laws' own yardstick does with formulas. -/
namespace Go.Proofs.Ytmahgfgndfcmpah
open Go.RowKit

theorem Rep.up {w w' : World} {f : Fm} {v : Value} (h : Rep w (fun _ => True) f v) (hb : Below w.heap.size w w') : Rep w' (fun _ => True) f v :=
  h.move fun b hb1 _ => ⟨hb.block b hb1, trivial⟩
theorem Reps.up {w w' : World} {b off : Nat} {fs : List Fm} (h : Reps w (fun _ => True) b off fs) (hb : Below w.heap.size w w') : Reps w' (fun _ => True) b off fs :=
  h.kept trivial (kept_of_below hb (fun _ h _ => h))

end Go.Proofs.Ytmahgfgndfcmpah
/- Walks: Same. -/
namespace Go.Proofs.Ytmahgfgndfcmpah
open Go.RowKit

mutual
def sameB : Fm → Fm → Bool
  | .mk k n ks, g => decide (k = g.kind) && decide (n.data.toList = g.name.data.toList) && decide (ks.length = g.kids.length) && sameBs ks g.kids
def sameBs : List Fm → List Fm → Bool
  | [], _ => true
  | _ :: _, [] => true
  | f :: fs, g :: gs => sameB f g && sameBs fs gs
end

mutual
theorem sameB_refl : ∀ f : Fm, sameB f f = true
  | .mk k n ks => by rw [sameB]; simp [Fm.kind, Fm.name, Fm.kids, sameBs_refl ks]
theorem sameBs_refl : ∀ fs : List Fm, sameBs fs fs = true
  | [] => by rw [sameBs]
  | f :: fs => by rw [sameBs, sameB_refl f, sameBs_refl fs]; rfl
end

mutual
theorem sameB_eq : ∀ f g : Fm, sameB f g = true → f = g
  | .mk k n ks, .mk k' n' ks', h => by
    rw [sameB] at h; simp only [Fm.kind, Fm.name, Fm.kids, Bool.and_eq_true] at h; obtain ⟨⟨⟨h1, h2⟩, h3⟩, h4⟩ := h
    replace h1 := of_decide_eq_true h1
    replace h2 := of_decide_eq_true h2
    replace h3 := of_decide_eq_true h3
    have h5 := sameBs_eq ks ks' h3 h4; subst h1 h5; (have h6 : n = n' := by apply ByteArray.ext; apply Array.ext'; exact h2); rw [h6]
theorem sameBs_eq : ∀ fs gs : List Fm, fs.length = gs.length → sameBs fs gs = true → fs = gs
  | [], [], _, _ => rfl
  | [], _ :: _, h, _ => by simp at h
  | _ :: _, [], h, _ => by simp at h
  | f :: fs, g :: gs, h, h' => by
    rw [sameBs, Bool.and_eq_true] at h'; (rw [sameB_eq f g h'.1, sameBs_eq fs gs (by simpa using h) h'.2])
end

end Go.Proofs.Ytmahgfgndfcmpah
/- Walks: FormulaBack. -/
namespace Go.Proofs.Ytmahgfgndfcmpah
open Go.RowKit

theorem below_keep {w w' : World} {k : Nat} {o : Obj} (hb : Below w.heap.size w w') (h : w.heap[k]? = some o) : w'.heap[k]? = some o := (hb.block k (lt_of_block h)).trans h
theorem alloc_keep {w : World} {k : Nat} {o : Obj} (h : w.heap[k]? = some o) (o' : Obj) : (w.alloc o').heap[k]? = some o := (Below.heap_alloc _ _ _ (lt_of_block h)).trans h
theorem below_join {W w w' : World} (h : Below W.heap.size W w) (hb : Below w.heap.size w w') : Below W.heap.size W w' := h.trans (hb.mono h.size)
theorem below_more {W w : World} (h : Below W.heap.size W w) (o : Obj) : Below W.heap.size W (w.alloc o) := h.alloc h.size o

theorem Rep.all {w : World} {ok : Nat → Prop} {f : Fm} {v : Value} (h : Rep w ok f v) : Rep w (fun _ => True) f v := h.move fun _ _ _ => ⟨rfl, trivial⟩
theorem Rep.more {w : World} {f : Fm} {v : Value} (h : Rep w (fun _ => True) f v) (o : Obj) : Rep (w.alloc o) (fun _ => True) f v := h.up ((Below.refl _ _).alloc (Nat.le_refl _) _)

end Go.Proofs.Ytmahgfgndfcmpah
/- A formula that came in, as data. -/
namespace Go.Proofs.Ytmahgfgndfcmpah
open Go.RowKit

theorem cells24 : Try.prog.cellsOf 24 = 3 := by kernel_rfl
theorem cells3 : Try.prog.cellsOf 3 = 1 := by kernel_rfl
theorem cells9 : Try.prog.cellsOf 9 = 1 := by kernel_rfl
theorem cells22 : Try.prog.cellsOf 22 = 1 := by kernel_rfl

theorem add_none (b off n : Nat) : (⟨b, off, none⟩ : Addr).add n = ⟨b, off + n, none⟩ := by
  (by_cases h : n = 0 <;> simp [Addr.add, h])

section
variable {H : Type} {enc : TypeId × Value → H} {W : World} {spare : Nat → Bool} {held : Bool}

/-- Cells that read as formulas, one behind the other. -/
theorem reps_of {b off len : Nat} (rd : ∀ i, i < len → ∃ c0 c1 c2 f, W.cell? ⟨b, off + i * 3, none⟩ = some c0 ∧ W.cell? ⟨b, off + i * 3 + 1, none⟩ = some c1 ∧ W.cell? ⟨b, off + i * 3 + 2, none⟩ = some c2 ∧ Rep W (fun _ => True) f (.agg #[c0, c1, c2])) :
    ∃ fs : List Fm, fs.length = len ∧ Reps W (fun _ => True) b off fs := by
  induction len generalizing off with
  | zero => exact ⟨[], rfl, Reps.nil⟩
  | succ len ih =>
    (obtain ⟨c0, c1, c2, f, h0, h1, h2, hr⟩ := rd 0 (by omega))
    obtain ⟨fs, hl, hrs⟩ := ih (off := off + 3) (fun i hi => by
      (obtain ⟨d0, d1, d2, g, k0, k1, k2, kr⟩ := rd (i + 1) (by omega)); (have e : off + (i + 1) * 3 = off + 3 + i * 3 := by omega); rw [e] at k0 k1 k2
      exact ⟨d0, d1, d2, g, k0, k1, k2, kr⟩)
    (exact ⟨f :: fs, by simp [hl], Reps.cons.2 ⟨⟨c0, c1, c2, by simpa using h0, by simpa using h1, by simpa using h2, hr⟩, hrs⟩⟩)

set_option maxRecDepth 100000 in
theorem rep_of_trod : ∀ (fuel : Nat) (cs : List Value) (x : DataW H × List MemPlace), DataW.trod enc Try.prog W 0 spare held fuel 24 cs = some x →
    ∃ c0 c1 c2 f, cs = [c0, c1, c2] ∧ Rep W (fun _ => True) f (.agg #[c0, c1, c2]) := by
  intro fuel
  induction fuel using Nat.strongRecOn with
  | _ fuel ih =>
    intro cs x h; obtain ⟨xs, n, hfu, -, hl, hlen, hf⟩ := DataW.trod_struct Try.underlying24 h; rw [cells24] at hl
    match cs, hl with
    | [c0, c1, c2], _ =>
      have h0 := hf 0 _ rfl; have h1 := hf 1 _ rfl; have h2 := hf 2 _ rfl; simp at hlen
      match xs, hlen with
      | [y0, y1, y2], _ =>
        simp [cells3, cells9, cells22] at h0 h1 h2; obtain ⟨k, e0, -, -⟩ := DataW.trod_int Try.underlying3 h0; obtain ⟨s, e1, -, hs⟩ := DataW.trod_string Try.underlying9 h1; simp at e0 e1; subst e0 e1
        rcases DataW.trod_slice Try.underlying22 h2 with ⟨e2, -⟩ | ⟨a, len, cap, elems, rest, m, hm, e2, -, -, hlc, hcm, hel, hall, -⟩
        · simp at e2
          subst e2; exact ⟨_, _, _, .mk k s [], rfl, Rep.leaf hs⟩
        · simp at e2
          subst e2; obtain ⟨b, off, spot⟩ := a; by_cases hz : len = 0
          · subst hz
            (exact ⟨_, _, _, .mk k s [], rfl, Rep.def.2 ⟨_, cap, rfl, hs, Nat.zero_le _, hcm, fun h => absurd rfl h⟩⟩)
          · have hsp : spot = none := by
              (have hh := hall 0 (by omega)); (rw [cells24, List.getElem?_eq_getElem (by omega)] at hh); obtain ⟨cs', hcs, htr⟩ := Option.bind_eq_some_iff.1 hh; obtain ⟨-, hl3, hcell⟩ := World.cells?_some hcs; (obtain ⟨d0, d1, d2, f, rfl, -⟩ := ih m (by omega) cs' _ htr); (have g0 := hcell 0 (by omega)); simp [Addr.add] at g0; simpa using World.cell?_spot g0
            subst hsp
            obtain ⟨fs, hfl, hrs⟩ := reps_of (W := W) (b := b) (off := off) (len := len) (fun i hi => by
              have hh := hall i hi; (rw [cells24, List.getElem?_eq_getElem (by omega), add_none] at hh); obtain ⟨cs', hcs, htr⟩ := Option.bind_eq_some_iff.1 hh; obtain ⟨-, hl3, hcell⟩ := World.cells?_some hcs; (obtain ⟨d0, d1, d2, f, rfl, hr⟩ := ih m (by omega) cs' _ htr); (have g0 := hcell 0 (by omega)); (have g1 := hcell 1 (by omega)); (have g2 := hcell 2 (by omega)); rw [add_none] at g0 g1 g2
              exact ⟨d0, d1, d2, f, g0, g1, g2, hr⟩)
            subst hfl; (exact ⟨_, _, _, .mk k s fs, rfl, Rep.def.2 ⟨_, cap, rfl, hs, hlc, hcm, fun _ => ⟨b, off, rfl, trivial, hrs⟩⟩⟩)
end
end Go.Proofs.Ytmahgfgndfcmpah
/- Walks: the yardstick's names and tokens. -/
namespace Go.Proofs.Ytmahgfgndfcmpah
open Go.RowKit

set_option maxHeartbeats 1000000 in
theorem refName_any (s : ByteArray) (hs : s.size ≤ maxLen) (w : World) :
    Calls Try.prog 10 #[.string s] w fun e w' => e = .returned (.bool (isNm s.data.toList)) ∧ w' = w := by
  have hsz : s.data.toList.length = s.size := Array.length_toList; unfold maxLen at hs; have HN : Hid (isNm s.data.toList = (allLow s.data.toList && decide (0 < s.data.toList.length) && decide (s.data.toList.length < 9))) := isNm_all _; have HZ : Hid (s.data.toList.length = s.size) := hsz; clear hsz
  go_enter Try.func10, Try.ntmps10
  go_wp2
  go_loop [3] (fun v => ∃ k l, At s k l ∧ v = .int .i64 (k : Nat) ∧ allLow s.data.toList = allLow l) (fun v => s.size - (intOf v).toNat)
  case atStart => exact ⟨0, s.data.toList, ⟨Nat.zero_le _, by simp⟩, rfl, rfl⟩
  case round =>
    obtain ⟨k, l, ha, rfl, hl⟩ := hrel; have hlen := ha.len; have HL : Hid (At s k l ∧ allLow s.data.toList = allLow l) := ⟨ha, hl⟩; clear ha hl
    cases l with
    | nil =>
      simp at hlen; (have hd : decide ((k : Int) < (s.size : Int)) = false := by simp; omega); go_wp2
      all_goals
        go_ret; refine ⟨ret_bool ?_, rfl⟩; rw [HN.out, HL.out.2, HZ.out]; rw [Bool.eq_iff_iff]; simp only [allLow, List.all_nil, Bool.true_and, Bool.and_eq_true, decide_eq_true_eq, Bool.false_eq_true, false_iff]
        omega
    | cons c l =>
      simp at hlen; (have hlt' : k < s.size := by omega); (have hlt : (k : Int) < (s.size : Int) := by omega); have hhd : s[k] = c := HL.out.1.head hlt'; by_cases hc : lower c
      · have hx : (97 : Int) ≤ (s[k].toNat : Int) := by rw [hhd]; simp [lower] at hc; omega
        (have hy : (s[k].toNat : Int) ≤ 122 := by rw [hhd]; simp [lower] at hc; omega); (have HM : Hid (At s (k + 1) l ∧ allLow s.data.toList = allLow l) := ⟨HL.out.1.cons, by rw [HL.out.2]; simp only [allLow, List.all_cons, hc, Bool.true_and]⟩); clear hhd hc; go_wp2
        go_round
        case rel => exact ⟨k + 1, l, HM.out.1, by go_num, HM.out.2⟩
        case measure => simp [intOf]; omega
      · have hx : ¬ ((97 : Int) ≤ (s[k].toNat : Int) ∧ (s[k].toNat : Int) ≤ 122) := by rw [hhd]; simp [lower] at hc; omega
        have HM : Hid (allLow s.data.toList = false) := by
          show _ = _; rw [HL.out.2]; simp only [allLow, List.all_cons, Bool.eq_false_iff.2 hc, Bool.false_and]
        clear hhd hc; go_wp2
        all_goals
          go_ret; refine ⟨ret_bool ?_, rfl⟩; rw [HN.out, HM.out]; rfl

end Go.Proofs.Ytmahgfgndfcmpah
/- Walks: a formula's nodes in a list. -/
namespace Go.Proofs.Ytmahgfgndfcmpah
open Go.RowKit

/-- Cells, three by three, that are formulas over blocks below B. -/
def LR (B : Nat) (w : World) : List Value → List Fm → Prop
  | [], [] => True
  | c0 :: c1 :: c2 :: cs, f :: fs => Rep w (· < B) f (.agg #[c0, c1, c2]) ∧ LR B w cs fs
  | _, _ => False

theorem LR.len {B : Nat} {w : World} : ∀ {cs : List Value} {fs : List Fm}, LR B w cs fs → cs.length = fs.length * 3
  | [], [], _ => rfl
  | _ :: _ :: _ :: _, _ :: _, h => by have := LR.len h.2; simp; omega
theorem LR.append {B : Nat} {w : World} : ∀ {cs : List Value} {fs : List Fm} {ds : List Value} {gs : List Fm}, LR B w cs fs → LR B w ds gs → LR B w (cs ++ ds) (fs ++ gs)
  | [], [], _, _, _, k => k
  | _ :: _ :: _ :: _, _ :: _, _, _, h, k => ⟨h.1, LR.append h.2 k⟩
theorem LR.low {B : Nat} {w w' : World} (hb : Below B w w') : ∀ {cs : List Value} {fs : List Fm}, LR B w cs fs → LR B w' cs fs
  | [], [], _ => trivial
  | _ :: _ :: _ :: _, _ :: _, h => ⟨h.1.low hb, LR.low hb h.2⟩
theorem LR.one {B : Nat} {w : World} : ∀ {cs : List Value} {fs : List Fm}, LR B w cs fs → ∀ u ∈ cs, u.oneCell' = true
  | [], [], _, u, hu => by cases hu
  | c0 :: c1 :: c2 :: cs, .mk k n ks :: fs, h, u, hu => by
    obtain ⟨sl, cap, hv, _⟩ := Rep.def.1 h.1; simp only [Value.agg.injEq, Array.mk.injEq, List.cons.injEq, and_true] at hv; obtain ⟨rfl, rfl, rfl⟩ := hv; simp only [List.mem_cons] at hu
    rcases hu with rfl | rfl | rfl | hu
    · rfl
    · rfl
    · rfl
    · exact LR.one h.2 u hu

theorem owns_up {w w' : World} {B size n : Nat} {e : TypeId} {v : Value} {xs : List Value} (h : w.ownsRow B e size v n xs) (hb : Below w.heap.size w w') : w'.ownsRow B e size v n xs := by
  obtain ⟨h1, h2⟩ := h; refine ⟨h1, ?_⟩
  rcases h2 with h2 | ⟨g, cap, cur, hv, hg, hh, r⟩
  · exact Or.inl h2
  · exact Or.inr ⟨g, cap, cur, hv, hg, below_keep hb hh, r⟩

theorem owns_mono {w : World} {B B' size n : Nat} {e : TypeId} {v : Value} {xs : List Value} (h : w.ownsRow B e size v n xs) (hB : B' ≤ B) : w.ownsRow B' e size v n xs := by
  obtain ⟨h1, h2⟩ := h; refine ⟨h1, ?_⟩
  rcases h2 with h2 | ⟨g, cap, cur, hv, hg, r⟩
  · exact Or.inl h2
  · exact Or.inr ⟨g, cap, cur, hv, by omega, r⟩

theorem infoFormula : ∃ i, Try.prog.info? 24 = some i ∧ i.zero = some (.agg #[.int .i64 0, .string ⟨#[]⟩, .slice none 0 0]) ∧ i.size = 3 ∧ i.bytes = 48 := by
  (obtain ⟨i, hi, h⟩ := Option.map_eq_some_iff.1 (show (Try.prog.info? 24).map (fun i => (i.zero, i.size, i.bytes)) = some (some (.agg #[.int .i64 0, .string ⟨#[]⟩, .slice none 0 0]), 3, 48) by kernel_rfl)); simp only [Prod.mk.injEq] at h; exact ⟨i, hi, h.1, h.2.1, h.2.2⟩

/-- A list of formulas that a call has made, from block B on. -/
def LO (A B : Nat) (w : World) (v : Value) (fs : List Fm) : Prop := ∃ g cap cs, v = .slice (some ⟨g, 0, none⟩) fs.length cap ∧ w.ownsRow B 24 3 v fs.length cs ∧ LR A w cs fs

def Walks (m : Nat) : Prop := ∀ (A : Nat) (f : Fm) (v : Value) (most : Nat) (w : World), f.size < m → most ≤ 1000000 → A ≤ w.heap.size → Rep w (· < A) f v →
  Calls Try.prog 22 #[v, .int .i64 most] w fun e w' => ∃ u, e = .returned u ∧ LO A w.heap.size w' u (walkL f most) ∧ Below w.heap.size w w'

theorem walkK_drop {ks : List Fm} {i : Nat} {f : Fm} (h : ks[i]? = some f) (most c : Nat) : walkK (ks.drop i) most c = if c ≤ most then walkL f (most - c) ++ walkK (ks.drop (i + 1)) most (c + (walkL f (most - c)).length) else [] := by
  have hi : i < ks.length := by
    rcases Nat.lt_or_ge i ks.length with h' | h'
    · exact h'
    · rw [List.getElem?_eq_none h'] at h; cases h
  rw [List.drop_eq_getElem_cons hi, walkK]; rw [List.getElem?_eq_getElem hi] at h; rw [Option.some.inj h]

set_option maxHeartbeats 2000000 in
theorem walk_step (m : Nat) (ih : Walks m) : Walks (m + 1) := by
  intro A f v most w hm hmost hA hrep; obtain ⟨k, n, ks⟩ := f; obtain ⟨sl, cap, rfl, hx1, hx2, hx3, hx4⟩ := Rep.def.1 hrep; have HX : Hid (ks ≠ [] → ∃ b off, sl = some ⟨b, off, none⟩ ∧ b < A ∧ Reps w (· < A) b off ks) := hx4; clear hx4; obtain ⟨i0, hi, hz0, hz1, hz2⟩ := infoFormula; (have hlenI : ((ks.length : Nat) : Int) ≤ 9223372036854775807 := by unfold maxLen at hx3; omega); (have hmI : (most : Int) ≤ 1000000 := by omega); have HIo : Hid (Try.prog.info? 24 = some i0 ∧ i0.zero = some (.agg #[.int .i64 0, .string ⟨#[]⟩, .slice none 0 0]) ∧ i0.size = 3 ∧ i0.bytes = 48) := ⟨hi, hz0, hz1, hz2⟩; clear hi hz0 hz1 hz2
  go_enter Try.func22, Try.ntmps22
  go_wp2_with fail
  go_loopg [6, 5] ks.length (fun g c o wr => ∃ i fs, i ≤ ks.length ∧ g = ks.length - i ∧ c = .int .i64 (i : Nat) ∧ Below w.heap.size w wr ∧ wr.heap[w.heap.size]? = some (.cells #[.int .i64 k, .string n, .slice sl ks.length cap] 24 (0, 0)) ∧ LO A (w.heap.size + 1) wr o fs ∧ 1 ≤ fs.length ∧ fs.length ≤ most + 1 ∧ Hid (walkL (.mk k n ks) most = fs ++ walkK (ks.drop i) most fs.length))
  case atStart =>
    (refine ⟨0, [.mk k n ks], by omega, by omega, rfl, ((Below.refl _ w).alloc (Nat.le_refl _) _).alloc (by simp) _, alloc_keep (blk_new _ _) _, ?_, by simp, by simp, by show _ = _; rw [walkL]; rfl⟩); (refine ⟨w.heap.size + 1, 1, [.int .i64 k, .string n, .slice sl ks.length cap], rfl, ⟨rfl, Or.inr ⟨w.heap.size + 1, 1, #[.int .i64 k, .string n, .slice sl ks.length cap], rfl, Nat.le_refl _, ?_, by simp, by simp [maxLen], rfl, rfl⟩⟩, ?_, trivial⟩)
    · have := blk_new (w.alloc (.cells #[.int .i64 k, .string n, .slice sl ks.length cap] 24 (0, 0))) (.cells #[.int .i64 k, .string n, .slice sl ks.length cap] 24 (0, 0))
      simpa using this
    · exact hrep.low (((Below.refl _ w).alloc hA _).alloc (by simp; omega) _)
  case round =>
    obtain ⟨i, fs, hile, hg, rfl, hbr, q0, hlo, hf1, hfm, HW⟩ := hrel; obtain ⟨g, cp, cs, rfl, hown, hlr⟩ := hlo; have HG : Hid (gk = ks.length - i) := hg; clear hg; have f2 := blk_cell q0 2; simp at f2; (have hfI : (fs.length : Int) ≤ (most : Int) + 1 := by omega); by_cases hlt : i < ks.length
    · obtain ⟨⟨k2, n2, ks2⟩, hki⟩ : ∃ f, ks[i]? = some f := ⟨_, List.getElem?_eq_getElem hlt⟩
      (have hltI : (i : Int) < (ks.length : Int) := by omega); have hwk := HW.out; rw [walkK_drop hki] at hwk; by_cases hc : fs.length ≤ most
      · rw [if_pos hc, ← List.append_assoc] at hwk
        (have hcI : (fs.length : Int) ≤ (most : Int) := by omega); (obtain ⟨b, off, hsl, hbA, hrs⟩ := HX.out (fun e => by rw [e] at hlt; simp at hlt)); subst hsl; obtain ⟨sl2, cap2, g0, g1, g2, hrep2⟩ := (hrs.low hbA (hbr.mono hA)).at i k2 n2 ks2 hki; (have hsz : (Fm.mk k2 n2 ks2).size < m := by have := sizes_get hki; rw [Fm.size] at hm; omega); have hwle := walkL_le (.mk k2 n2 ks2) (most - fs.length)
        have HIH : Hid (∀ (x : Int), x = (most : Int) - (fs.length : Int) → Calls Try.prog 22 #[.agg #[.int .i64 k2, .string n2, .slice sl2 ks2.length cap2], .int .i64 x] wr fun e w' => ∃ u, e = .returned u ∧ LO A wr.heap.size w' u (walkL (.mk k2 n2 ks2) (most - fs.length)) ∧ Below wr.heap.size wr w') := fun x hx => by
          (have := ih A _ _ (most - fs.length) wr hsz (by omega) (by have := hbr.size; omega) hrep2)
          rwa [show (((most - fs.length : Nat)) : Int) = x by omega] at this
        (have hwpos : 1 ≤ (walkL (.mk k2 n2 ks2) (most - fs.length)).length := by rw [walkL]; simp)
        have HN : Hid (walkL (.mk k n ks) most = (fs ++ walkL (.mk k2 n2 ks2) (most - fs.length)) ++ walkK (ks.drop (i + 1)) most (fs ++ walkL (.mk k2 n2 ks2) (most - fs.length)).length) := by
          show _ = _; rw [List.length_append]; exact hwk
        clear hwk HW hki hrs HX hrep; generalize walkL (.mk k2 n2 ks2) (most - fs.length) = gs at *; have zw := hbr.size; have z0 := lt_of_block q0; obtain ⟨hi, hz0, hz1, hz2⟩ := HIo.out
        go_wp2_with (first
          | (go_at_call 22
             (refine (HIH.out _ (by omega)).mono ?_); rintro e w2 ⟨u, rfl, hlo2, hb2⟩; obtain ⟨g2', cp2, cs2, rfl, hown2, hlr2⟩ := hlo2; have zw2 := hb2.size; have hownA := owns_up hown hb2
             have hlen2 := hlr2.len)
          | (at_builtin
             (refine wpList_append_lies _ rfl _ _ 22 rfl (w.heap.size + 1) 24 i0 (.agg #[.int .i64 0, .string ⟨#[]⟩, .slice none 0 0]) 3 48 Try.underlying22 hi hz0 hz1 hz2 rfl (by decide) _ _ _ rfl hownA ⟨g2', 0, none⟩ gs.length cp2 cs2 rfl hlen2 (fun j u hu => hown2.cells (g := g2') rfl j u hu) hlr2.one (by omega) (by unfold maxLen; omega) (by omega) (by omega) _ rfl ?_)
             intro g3 cp3 w3 hown3 hgrow hat hlt3)
          | fail)
        (have hown3' : w3.ownsRow (w.heap.size + 1) 24 3 (.slice (some ⟨g3, 0, none⟩) (fs ++ gs).length cp3) (fs ++ gs).length (cs ++ cs2) := by rw [List.length_append]; exact hown3); have hgrow' : w2.grownBy w3 (some g) := hgrow; clear hgrow; have hgrow := hgrow'
        have hgA : Below A w2 w3 := ⟨hgrow.os, hgrow.tape, hgrow.output, hgrow.size, fun j hj => hgrow.block j (by omega) (fun e => by
          have : w.heap.size + 1 ≤ g := (hown.lt g rfl).1; have e : j = g := Option.some.inj e
          omega)⟩
        have hgB : Below w.heap.size w2 w3 := ⟨hgrow.os, hgrow.tape, hgrow.output, hgrow.size, fun j hj => hgrow.block j (by omega) (fun e => by
          have : w.heap.size + 1 ≤ g := (hown.lt g rfl).1; have e : j = g := Option.some.inj e
          omega)⟩
        have q3 : w3.heap[w.heap.size]? = some (.cells #[.int .i64 k, .string n, .slice (some ⟨b, off, none⟩) ks.length cap] 24 (0, 0)) := by
          rw [hgrow.block _ (by omega) (fun e => by
            have : w.heap.size + 1 ≤ g := (hown.lt g rfl).1; have e : w.heap.size = g := Option.some.inj e
            omega)]
          exact below_keep hb2 q0
        (have hLR : LR A w3 (cs ++ cs2) (fs ++ gs) := ((hlr.low (hb2.mono (by omega))).append hlr2).low hgA); have hBB : Below w.heap.size w w3 := (hbr.trans (hb2.mono zw)).trans hgB; have hfl : (fs ++ gs).length = fs.length + gs.length := List.length_append
        go_roundg (ks.length - (i + 1))
        case measure => have := HG.out; omega
        case rel => exact ⟨i + 1, fs ++ gs, by omega, rfl, by go_num, hBB, q3, ⟨g3, cp3, cs ++ cs2, by rw [hfl], by rw [hfl] at hown3'; rw [hfl]; exact hown3', hLR⟩, by omega, by omega, HN⟩
      · rw [if_neg hc, List.append_nil] at hwk
        (have hcI : decide ((fs.length : Int) ≤ (most : Int)) = false := by simp; omega); (have hcI2 : ¬ ((fs.length : Int) ≤ (most : Int)) := by omega); have HN : Hid (walkL (.mk k n ks) most = fs) := hwk; clear hwk HW hki HX hrep; go_wp2_with fail; go_ret; refine ⟨_, rfl, ?_, hbr⟩; rw [HN.out]; (exact ⟨g, cp, cs, rfl, owns_mono hown (by omega), hlr⟩)
    · have HN : Hid (walkL (.mk k n ks) most = fs) := by
        show _ = _; (rw [HW.out, List.drop_of_length_le (by omega), walkK, List.append_nil])
      clear HW HX hrep; go_wp2_with fail; go_ret; refine ⟨_, rfl, ?_, hbr⟩; rw [HN.out]; (exact ⟨g, cp, cs, rfl, owns_mono hown (by omega), hlr⟩)

theorem walks_all : ∀ m, Walks m
  | 0 => fun _ _ _ _ _ h => absurd h (Nat.not_lt_zero _)
  | m + 1 => walk_step m (walks_all m)

theorem walk_any (f : Fm) (v : Value) (most : Nat) (w : World) (hmost : most ≤ 1000000) (hrep : Rep w (fun _ => True) f v) :
    Calls Try.prog 22 #[v, .int .i64 most] w fun e w' => ∃ u, e = .returned u ∧ LO w.heap.size w.heap.size w' u (walkL f most) ∧ Below w.heap.size w w' :=
  walks_all (f.size + 1) w.heap.size f v most w (Nat.lt_succ_self _) hmost (Nat.le_refl _) (hrep.move fun _ hb _ => ⟨rfl, hb⟩)
end Go.Proofs.Ytmahgfgndfcmpah
