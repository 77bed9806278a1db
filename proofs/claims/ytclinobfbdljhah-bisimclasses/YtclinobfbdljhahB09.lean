/- Texts of one proof, one behind the other: Check2, Check3, Print1, Print3, Ref1, Ref2, Back1, Open1. -/
import Derived.Test.YtclinobfbdljhahB05
import Derived.Test.YtclinobfbdljhahB01
import Derived.Lib.Builder
import Derived.Lib.AppendStr
import Derived.Lib.UnsafeStr
import Derived.Laws.Externs
import Derived.ProofKit
import Derived.Deep.Strs
import Derived.Deep.Slices
import Derived.Lib.SmallJoins
/- Walks: Check's recursion. -/
namespace Go.Proofs.Ytclinobfbdljhah
open Go.RowKit

/-- The checker's block. -/
def RC (bc : Nat) (w : World) (s : Nat) : Prop := w.heap[bc]? = some (.cells #[.int .i64 s] 96 (0, 0))
theorem RC.lt {bc : Nat} {w : World} {s : Nat} (h : RC bc w s) : bc < w.heap.size := lt_of_block h
theorem RC.c0 {bc : Nat} {w : World} {s : Nat} (h : RC bc w s) : w.cell? ⟨bc, 0, none⟩ = some (.int .i64 s) := blk_cell h 0
theorem RC.fz {bc : Nat} {w : World} {s : Nat} (h : RC bc w s) : w.frozen? ⟨bc, 0, none⟩ = false := blk_fz h 0
theorem RC.alloc {bc : Nat} {w : World} {s : Nat} (h : RC bc w s) (o : Obj) : RC bc (w.alloc o) s := by
  unfold RC; rw [Below.heap_alloc _ _ _ h.lt]; exact h
theorem RC.set {bc : Nat} {w : World} {s : Nat} (h : RC bc w s) (s' : Nat) : RC bc (w.setCell ⟨bc, 0, none⟩ (.int .i64 s')) s' := by
  unfold RC at *; simp [World.setCell, Array.getElem?_modify, h]
theorem RC.below {bc : Nat} {w w' : World} {s : Nat} (h : RC bc w s) (hb : Below w.heap.size w w') : RC bc w' s := by
  unfold RC; rw [hb.block _ h.lt]; exact h

/-- What a look at a formula leaves. -/
def LPost (bc : Nat) : Chk → Ending → World → Prop
  | .ok s, e, w' => e = .returned (.tuple #[]) ∧ RC bc w' s
  | .bad c a, e, _ => e = .panicked (stopC c a)

def Looks (m : Nat) : Prop := ∀ (bc s : Nat) (f : Fm) (v : Value) (w : World), f.size < m → RC bc w s → s ≤ 200 → Rep w (· ≠ bc) f v →
  Calls Try.prog 48 #[.pointer (some ⟨bc, 0, none⟩), v] w fun e w' => Kept (· ≠ bc) w w' ∧ LPost bc (chk f s) e w'

theorem chks_drop {ks : List Fm} {i : Nat} {f : Fm} (h : ks[i]? = some f) (s : Nat) : chks (ks.drop i) s = match chk f s with | .bad c a => .bad c a | .ok s' => chks (ks.drop (i + 1)) s' := by
  have hi : i < ks.length := by
    rcases Nat.lt_or_ge i ks.length with h' | h'
    · exact h'
    · rw [List.getElem?_eq_none h'] at h; cases h
  rw [List.drop_eq_getElem_cons hi, chks]; rw [List.getElem?_eq_getElem hi] at h; rw [Option.some.inj h]
  cases chk f s <;> rfl

theorem sizes_get {ks : List Fm} {i : Nat} {f : Fm} (h : ks[i]? = some f) : f.size ≤ Fm.sizes ks := by
  induction ks generalizing i with
  | nil => simp at h
  | cons g gs ih =>
    cases i with
    | zero => simp at h; subst h; simp [Fm.sizes]
    | succ i => have := ih (i := i) (by simpa using h); simp [Fm.sizes]; omega

set_option maxHeartbeats 2000000 in
theorem look_step (m : Nat) (ih : Looks m) : Looks (m + 1) := by
  intro bc s f v w hm hc hs hrep; obtain ⟨k, n, ks⟩ := f; obtain ⟨sl, cap, rfl, hx1, hx2, hx3, hx4⟩ := Rep.def.1 hrep; have f0 := hc.c0; have f1 := hc.fz; have z0 := hc.lt; by_cases h200 : s = 200
  · subst h200
    go_enter Try.func48, Try.ntmps48
    go_wp2_with (first
      | (go_at_call 79; refine (stop_any _ _ _).mono ?_; rintro e w4 ⟨rfl, rfl⟩)
      | fail)
    refine ⟨rfl, (Kept.refl _ _).alloc _, ?_⟩; simp only [chk, if_true, LPost]; rfl
  · have hs1 : ((s : Int) == 200) = false := by simp; omega
    (have hs2 : (s : Int) ≤ 200 := by omega)
    rcases hnf : nodeF k n ks.length with _ | c
    · have hchk : chk (.mk k n ks) s = chks ks (s + 1) := by rw [chk, if_neg h200, hnf]
      rw [hchk]; have HX : Hid (ks ≠ [] → ∃ b off, sl = some ⟨b, off, none⟩ ∧ b ≠ bc ∧ Reps w (· ≠ bc) b off ks) := hx4; clear hx4; (have hlen : ((ks.length : Nat) : Int) ≤ 9223372036854775807 := by unfold maxLen at hx3; omega)
      go_enter Try.func48, Try.ntmps48
      go_wp2_with (first
        | (go_at_call 80
           refine (nodeF_none hnf _ hx1 _ _ _).mono ?_; rintro e w4 ⟨rfl, hb⟩
           have q4 : w4.heap[w.heap.size]? = some (.cells #[.int .i64 k, .string n, .slice sl ks.length cap] 24 (0, 0)) := by
             (rw [hb.block _ (by simp [World.setCell])]); have := blk_new (w.setCell ⟨bc, 0, none⟩ (.int .i64 (s + 1))) (.cells #[.int .i64 k, .string n, .slice sl ks.length cap] 24 (0, 0)); simpa [World.setCell] using this
           have f2 := blk_cell q4 2
           simp at f2)
        | fail)
      have hc4 : RC bc w4 (s + 1) := ((hc.set (s + 1)).alloc _).below hb; (have hk4 : Kept (· ≠ bc) w w4 := (((Kept.refl _ _).setCell (by simp) _).alloc _).trans (kept_of_below hb (fun _ h _ => h))); clear f0 f1 f2 hb
      go_loopg [27] ks.length (fun g v wr => ∃ i s', i ≤ ks.length ∧ g = ks.length - i ∧ v = .int .i64 (i : Nat) ∧ s' ≤ 200 ∧ RC bc wr s' ∧ Kept (· ≠ bc) w wr ∧ Hid (chks (ks.drop i) s' = chks ks (s + 1)))
      case atStart => exact ⟨0, s + 1, by omega, by omega, rfl, by omega, hc4, hk4, by show _ = _; simp⟩
      case round =>
        obtain ⟨i, s', hi, hg, rfl, hs', hcr, hkr, HC⟩ := hrel; have HG : Hid (gk = ks.length - i) := hg; clear hg hc4 hk4 q4; by_cases hlt : i < ks.length
        · obtain ⟨b, off, hsl, hb, hrs⟩ := HX.out (fun e => by rw [e] at hlt; simp at hlt)
          subst hsl; obtain ⟨⟨k2, n2, ks2⟩, hki⟩ : ∃ f, ks[i]? = some f := ⟨_, List.getElem?_eq_getElem hlt⟩; obtain ⟨sl2, cap2, g0, g1, g2, hrep2⟩ := (hrs.kept hb hkr).at i k2 n2 ks2 hki; (have hlt2 : (i : Int) < (ks.length : Int) := by omega); have hds := HC.out; rw [chks_drop hki] at hds; (have hsz : (Fm.mk k2 n2 ks2).size < m := by have := sizes_get hki; rw [Fm.size] at hm; omega); (have HI : Hid (∀ w, RC bc w s' → Rep w (· ≠ bc) (.mk k2 n2 ks2) (.agg #[.int .i64 k2, .string n2, .slice sl2 ks2.length cap2]) → Calls Try.prog 48 #[.pointer (some ⟨bc, 0, none⟩), .agg #[.int .i64 k2, .string n2, .slice sl2 ks2.length cap2]] w fun e w' => Kept (· ≠ bc) w w' ∧ LPost bc (chk (.mk k2 n2 ks2) s') e w') := fun w h1 h2 => ih bc s' _ _ w hsz h1 hs' h2); have HK : Hid (ks[i]? = some (.mk k2 n2 ks2)) := hki; clear hki hrs hrep HX HC hnf hchk
          rcases hck : chk (.mk k2 n2 ks2) s' with s2 | ⟨c, a⟩
          · rw [hck] at hds HI
            simp only at hds; have HD : Hid (chks (ks.drop (i + 1)) s2 = chks ks (s + 1)) := hds; have hs2' := (chk_le _ _ _ hck hs').1; clear hds hck
            go_wp2_with (first
              | (go_at_call 48
                 refine (HI.out _ (hcr.alloc _) (hrep2.kept ((Kept.refl _ _).alloc _))).mono ?_
                 rintro e w5 ⟨hk5, rfl, hc5⟩)
              | fail)
            go_roundg (ks.length - (i + 1))
            case measure => have := HG.out; omega
            case rel => exact ⟨i + 1, s2, by omega, rfl, by go_num, hs2', hc5, (hkr.alloc _).trans hk5, HD⟩
          · rw [hck] at hds HI
            simp only at hds; have HD : Hid (Chk.bad c a = chks ks (s + 1)) := hds; clear hds hck
            go_wp2_with (first
              | (go_at_call 48
                 refine (HI.out _ (hcr.alloc _) (hrep2.kept ((Kept.refl _ _).alloc _))).mono ?_; rintro e w5 ⟨hk5, he5⟩
                 obtain rfl : e = _ := he5)
              | fail)
            (exact ⟨rfl, (hkr.alloc _).trans hk5, by rw [← HD.out]; rfl⟩)
        · go_wp2_with fail
          go_end0
          refine ⟨hkr, ?_⟩; (rw [← HC.out, List.drop_of_length_le (by omega), chks]); exact ⟨rfl, hcr⟩
    · go_enter Try.func48, Try.ntmps48
      go_wp2_with (first
        | (go_at_call 80
           refine (nodeF_some hnf _ hx1 _ _ _).mono ?_
           rintro e w4 ⟨rfl, hb⟩)
        | fail)
      (refine ⟨rfl, (((Kept.refl _ _).setCell (by simp) _).alloc _).trans (kept_of_below hb (fun _ h _ => h)), ?_⟩); rw [chk, if_neg h200, hnf]; rfl
end Go.Proofs.Ytclinobfbdljhah
/- Walks: Check. -/
namespace Go.Proofs.Ytclinobfbdljhah
open Go.RowKit

theorem looks_all : ∀ m, Looks m
  | 0 => fun _ _ _ _ _ h => absurd h (Nat.not_lt_zero _)
  | m + 1 => look_step m (looks_all m)

theorem check1_in (cap : Array Value) (w : World) : (callFunc 47 cap).run Try.prog w = .ok (.enter 47 cap) w := by
  simp [go_sem]

set_option maxHeartbeats 1000000 in
theorem check1_any (bf : Nat) (k : Int) (n : ByteArray) (ks : List Fm) (sl : Option Addr) (cap : Nat) (w : World) (q0 : w.heap[bf]? = some (.cells #[.int .i64 k, .string n, .slice sl ks.length cap] 24 (0, 0)))
    (hrep : Rep w (fun _ => True) (.mk k n ks) (.agg #[.int .i64 k, .string n, .slice sl ks.length cap])) (x : Chk) (hx : chk (.mk k n ks) 0 = x) :
    Calls Try.prog 47 #[.pointer (some ⟨bf, 0, none⟩)] w fun e w' => Kept (fun _ => True) w w' ∧ match x with
      | .ok _ => e = .returned (.tuple #[])
      | .bad c a => e = .panicked (stopC c a) := by
  obtain ⟨g1, g2, g3, g4, g5, g6⟩ := blk3 q0; have z0 := lt_of_block q0
  have hl := looks_all ((Fm.mk k n ks).size + 1) w.heap.size 0 (.mk k n ks) (.agg #[.int .i64 k, .string n, .slice sl ks.length cap]) (w.alloc (.cells #[.int .i64 0] 96 (0, 0))) (Nat.lt_succ_self _) (blk_new _ _) (by omega)
    (hrep.move fun b hb _ => ⟨Below.heap_alloc _ _ _ hb, by omega⟩)
  rw [hx] at hl; have HL : Hid (Calls Try.prog 48 _ _ _) := hl; clear hl hrep
  cases x with
  | ok s =>
    go_enter Try.func47, Try.ntmps47
    go_wp2_with (first
      | (go_at_call 48
         refine HL.out.mono ?_
         rintro e w1 ⟨hk1, rfl, -⟩)
      | fail)
    go_end0
    exact ⟨hk1.past, rfl⟩
  | bad c a =>
    go_enter Try.func47, Try.ntmps47
    go_wp2_with (first
      | (go_at_call 48
         refine HL.out.mono ?_; rintro e w1 ⟨hk1, he⟩
         obtain rfl : e = _ := he)
      | fail)
    exact ⟨rfl, hk1.past, rfl⟩

theorem two_new {w : World} {o0 o1 o2 : Obj} : (((w.alloc o0).alloc o1).alloc o2).heap[w.heap.size]? = some o0 ∧ (((w.alloc o0).alloc o1).alloc o2).heap[w.heap.size + 1]? = some o1 := by
  (have e1 : (w.alloc o0).heap.size = w.heap.size + 1 := by simp); (have e2 : ((w.alloc o0).alloc o1).heap.size = w.heap.size + 2 := by simp); refine ⟨?_, ?_⟩
  · rw [Below.heap_alloc _ _ _ (by omega), Below.heap_alloc _ _ _ (by omega)]; exact blk_new _ _
  · rw [Below.heap_alloc _ _ _ (by omega), ← e1]; exact blk_new _ _

set_option maxHeartbeats 1000000 in
theorem check_any (f : Fm) (v : Value) (w : World) (hrep : Rep w (fun _ => True) f v) :
    Calls Try.prog 27 #[v] w fun e w' => e = .returned (.agg #[.int .i64 f.code.1, .int .i64 f.code.2]) ∧ Below w.heap.size w w' := by
  obtain ⟨k, n, ks⟩ := f; obtain ⟨sl, cap, rfl, hx1, hx2, hx3, hx4⟩ := Rep.def.1 hrep; clear hx4; (have hmf : ∀ (fn : Fn) (first cap : Array Value) (w : World), (Instr.makeFunc fn first cap).run Try.prog w = .ok (.func fn first cap) w := fun _ _ _ _ => rfl)
  rcases hx : chk (.mk k n ks) 0 with s | ⟨c, a⟩
  · have hcode : (Fm.mk k n ks).code = (0, 0) := by simp only [Fm.code, hx]
    rw [hcode]
    go_enter Try.func27, Try.ntmps27
    go_wp2_with (first
      | (go_at_call 46
         (refine (caught_ok 47 _ _ (fun w1 => w1.heap[w.heap.size + 1]? = some (.cells #[.int .i64 0, .int .i64 0] 32 (0, 0)) ∧ Below w.heap.size w w1) (check1_in _) ?_).mono ?_)
         · refine (check1_any w.heap.size k n ks sl cap _ two_new.1 (hrep.move fun b hb _ => ⟨by rw [Below.heap_alloc _ _ _ (by simp; omega), Below.heap_alloc _ _ _ (by simp; omega), Below.heap_alloc _ _ _ hb], trivial⟩) _ hx).mono ?_
           rintro e w1 ⟨hk, rfl⟩; (exact ⟨rfl, (hk.block _ (by simp) trivial).trans (blk_new _ _), (hk.block _ (by simp) trivial).trans two_new.2, ((((Kept.refl _ w).alloc _).alloc _).alloc _ |>.trans hk).below (Nat.le_refl _) (fun _ _ => trivial)⟩)
         rintro e w2 ⟨rfl, w1, ⟨q1, hb1⟩, hk2⟩; have z1 := lt_of_block q1; (have q3 := (hk2.block _ z1 (by simp)).trans q1)
         obtain ⟨k1, k2, k3, k4⟩ := blk2 q3)
      | fail)
    have hz := hb1.size; have hz2 := hk2.size; (have b1 : Below w.heap.size w w2 := ((kept_of_below (ok := fun k => k < w.heap.size) hb1 (fun _ _ h => h)).trans (hk2.mono (fun k _ h => by simp; omega))).below (Nat.le_refl _) (fun _ h => h)); have f2 := set2 q3 (.int .i64 0) (.int .i64 0); (have b2 := (b1.setCell (p := ⟨w.heap.size + 1, 0, none⟩) (by simp) (.int .i64 0)).setCell (p := ⟨w.heap.size + 1, 1, none⟩) (by simp) (.int .i64 0)); generalize World.setCell _ _ _ = F at f2 b2 ⊢; clear k1 k2 k3 k4; obtain ⟨k1, k2, -⟩ := blk2 f2; (exact bodyPost_ret (v := .agg #[.int .i64 0, .int .i64 0]) (by simp [results, Try.results27, go_sem, k1, k2]) rfl ⟨rfl, b2⟩)
  · have hcode : (Fm.mk k n ks).code = (c, (a : Int)) := by simp only [Fm.code, hx]
    rw [hcode]
    go_enter Try.func27, Try.ntmps27
    go_wp2_with (first
      | (go_at_call 46
         (refine (caught_bad 47 _ _ (fun w1 => w1.heap[w.heap.size + 1]? = some (.cells #[.int .i64 0, .int .i64 0] 32 (0, 0)) ∧ Below w.heap.size w w1) c a (check1_in _) ?_).mono ?_)
         · refine (check1_any w.heap.size k n ks sl cap _ two_new.1 (hrep.move fun b hb _ => ⟨by rw [Below.heap_alloc _ _ _ (by simp; omega), Below.heap_alloc _ _ _ (by simp; omega), Below.heap_alloc _ _ _ hb], trivial⟩) _ hx).mono ?_
           rintro e w1 ⟨hk, rfl⟩; (exact ⟨rfl, (hk.block _ (by simp) trivial).trans (blk_new _ _), (hk.block _ (by simp) trivial).trans two_new.2, ((((Kept.refl _ w).alloc _).alloc _).alloc _ |>.trans hk).below (Nat.le_refl _) (fun _ _ => trivial)⟩)
         rintro e w2 ⟨rfl, w1, ⟨q1, hb1⟩, hk2⟩; have z1 := lt_of_block q1; (have q3 := (hk2.block _ z1 (by simp)).trans q1)
         obtain ⟨k1, k2, k3, k4⟩ := blk2 q3)
      | fail)
    have hz := hb1.size; have hz2 := hk2.size; (have b1 : Below w.heap.size w w2 := ((kept_of_below (ok := fun k => k < w.heap.size) hb1 (fun _ _ h => h)).trans (hk2.mono (fun k _ h => by simp; omega))).below (Nat.le_refl _) (fun _ h => h)); have f2 := set2 q3 (.int .i64 c) (.int .i64 a); (have b2 := (b1.setCell (p := ⟨w.heap.size + 1, 0, none⟩) (by simp) (.int .i64 c)).setCell (p := ⟨w.heap.size + 1, 1, none⟩) (by simp) (.int .i64 a)); generalize World.setCell _ _ _ = F at f2 b2 ⊢; clear k1 k2 k3 k4; obtain ⟨k1, k2, -⟩ := blk2 f2; (exact bodyPost_ret (v := .agg #[.int .i64 c, .int .i64 a]) (by simp [results, Try.results27, go_sem, k1, k2]) rfl ⟨rfl, b2⟩)
end Go.Proofs.Ytclinobfbdljhah
/- Walks: the writer. -/
namespace Go.Proofs.Ytclinobfbdljhah
open Go.RowKit

theorem Rep.low {w w' : World} {B : Nat} {f : Fm} {v : Value} (h : Rep w (· < B) f v) (hb : Below B w w') : Rep w' (· < B) f v :=
  h.move fun b _ hb2 => ⟨hb.block b hb2, hb2⟩

theorem Reps.low {w w' : World} {B b off : Nat} {fs : List Fm} (h : Reps w (· < B) b off fs) (hb : b < B) (hk : Below B w w') : Reps w' (· < B) b off fs :=
  h.kept hb (kept_of_below hk (fun _ _ h => h))

end Go.Proofs.Ytclinobfbdljhah
/- Walks: the writer, three. -/
namespace Go.Proofs.Ytclinobfbdljhah
open Go.RowKit

theorem slice_shape {w : World} {ok : Nat → Prop} {k : Int} {n : ByteArray} {ks : List Fm} {v : Value} (h : Rep w ok (.mk k n ks) v) : ∃ sl cap, v = .agg #[.int .i64 k, .string n, .slice sl ks.length cap] := by
  obtain ⟨sl, cap, hv, _⟩ := Rep.def.1 h; exact ⟨sl, cap, hv⟩

end Go.Proofs.Ytclinobfbdljhah
/- Walks: what the laws' own yardstick does with formulas. -/
namespace Go.Proofs.Ytclinobfbdljhah
open Go.RowKit

theorem Rep.up {w w' : World} {f : Fm} {v : Value} (h : Rep w (fun _ => True) f v) (hb : Below w.heap.size w w') : Rep w' (fun _ => True) f v :=
  h.move fun b hb1 _ => ⟨hb.block b hb1, trivial⟩
theorem Reps.up {w w' : World} {b off : Nat} {fs : List Fm} (h : Reps w (fun _ => True) b off fs) (hb : Below w.heap.size w w') : Reps w' (fun _ => True) b off fs :=
  h.kept trivial (kept_of_below hb (fun _ h _ => h))

end Go.Proofs.Ytclinobfbdljhah
/- Walks: Same. -/
namespace Go.Proofs.Ytclinobfbdljhah
open Go.RowKit

mutual
def sameB : Fm → Fm → Bool
  | .mk k n ks, g => decide (k = g.kind) && decide (n.data.toList = g.name.data.toList) && decide (ks.length = g.kids.length) && sameBs ks g.kids
def sameBs : List Fm → List Fm → Bool
  | [], _ => true
  | _ :: _, [] => true
  | f :: fs, g :: gs => sameB f g && sameBs fs gs
end

mutual
theorem sameB_refl : ∀ f : Fm, sameB f f = true
  | .mk k n ks => by rw [sameB]; simp [Fm.kind, Fm.name, Fm.kids, sameBs_refl ks]
theorem sameBs_refl : ∀ fs : List Fm, sameBs fs fs = true
  | [] => by rw [sameBs]
  | f :: fs => by rw [sameBs, sameB_refl f, sameBs_refl fs]; rfl
end

mutual
theorem sameB_eq : ∀ f g : Fm, sameB f g = true → f = g
  | .mk k n ks, .mk k' n' ks', h => by
    rw [sameB] at h; simp only [Fm.kind, Fm.name, Fm.kids, Bool.and_eq_true] at h; obtain ⟨⟨⟨h1, h2⟩, h3⟩, h4⟩ := h
    replace h1 := of_decide_eq_true h1
    replace h2 := of_decide_eq_true h2
    replace h3 := of_decide_eq_true h3
    have h5 := sameBs_eq ks ks' h3 h4; subst h1 h5; (have h6 : n = n' := by apply ByteArray.ext; apply Array.ext'; exact h2); rw [h6]
theorem sameBs_eq : ∀ fs gs : List Fm, fs.length = gs.length → sameBs fs gs = true → fs = gs
  | [], [], _, _ => rfl
  | [], _ :: _, h, _ => by simp at h
  | _ :: _, [], h, _ => by simp at h
  | f :: fs, g :: gs, h, h' => by
    rw [sameBs, Bool.and_eq_true] at h'; (rw [sameB_eq f g h'.1, sameBs_eq fs gs (by simpa using h) h'.2])
end

end Go.Proofs.Ytclinobfbdljhah
/- Walks: FormulaBack. -/
namespace Go.Proofs.Ytclinobfbdljhah
open Go.RowKit

theorem below_keep {w w' : World} {k : Nat} {o : Obj} (hb : Below w.heap.size w w') (h : w.heap[k]? = some o) : w'.heap[k]? = some o := (hb.block k (lt_of_block h)).trans h
theorem alloc_keep {w : World} {k : Nat} {o : Obj} (h : w.heap[k]? = some o) (o' : Obj) : (w.alloc o').heap[k]? = some o := (Below.heap_alloc _ _ _ (lt_of_block h)).trans h
theorem below_join {W w w' : World} (h : Below W.heap.size W w) (hb : Below w.heap.size w w') : Below W.heap.size W w' := h.trans (hb.mono h.size)
theorem below_more {W w : World} (h : Below W.heap.size W w) (o : Obj) : Below W.heap.size W (w.alloc o) := h.alloc h.size o

theorem Rep.all {w : World} {ok : Nat → Prop} {f : Fm} {v : Value} (h : Rep w ok f v) : Rep w (fun _ => True) f v := h.move fun _ _ _ => ⟨rfl, trivial⟩
theorem Rep.more {w : World} {f : Fm} {v : Value} (h : Rep w (fun _ => True) f v) (o : Obj) : Rep (w.alloc o) (fun _ => True) f v := h.up ((Below.refl _ _).alloc (Nat.le_refl _) _)

end Go.Proofs.Ytclinobfbdljhah
/- A formula that came in, as data. -/
namespace Go.Proofs.Ytclinobfbdljhah
open Go.RowKit

theorem cells24 : Try.prog.cellsOf 24 = 3 := by kernel_rfl
theorem cells3 : Try.prog.cellsOf 3 = 1 := by kernel_rfl
theorem cells9 : Try.prog.cellsOf 9 = 1 := by kernel_rfl
theorem cells22 : Try.prog.cellsOf 22 = 1 := by kernel_rfl

theorem add_none (b off n : Nat) : (⟨b, off, none⟩ : Addr).add n = ⟨b, off + n, none⟩ := by
  (by_cases h : n = 0 <;> simp [Addr.add, h])

section
variable {H : Type} {enc : TypeId × Value → H} {W : World} {spare : Nat → Bool} {held : Bool}

/-- Cells that read as formulas, one behind the other. -/
theorem reps_of {b off len : Nat} (rd : ∀ i, i < len → ∃ c0 c1 c2 f, W.cell? ⟨b, off + i * 3, none⟩ = some c0 ∧ W.cell? ⟨b, off + i * 3 + 1, none⟩ = some c1 ∧ W.cell? ⟨b, off + i * 3 + 2, none⟩ = some c2 ∧ Rep W (fun _ => True) f (.agg #[c0, c1, c2])) :
    ∃ fs : List Fm, fs.length = len ∧ Reps W (fun _ => True) b off fs := by
  induction len generalizing off with
  | zero => exact ⟨[], rfl, Reps.nil⟩
  | succ len ih =>
    (obtain ⟨c0, c1, c2, f, h0, h1, h2, hr⟩ := rd 0 (by omega))
    obtain ⟨fs, hl, hrs⟩ := ih (off := off + 3) (fun i hi => by
      (obtain ⟨d0, d1, d2, g, k0, k1, k2, kr⟩ := rd (i + 1) (by omega)); (have e : off + (i + 1) * 3 = off + 3 + i * 3 := by omega); rw [e] at k0 k1 k2
      exact ⟨d0, d1, d2, g, k0, k1, k2, kr⟩)
    (exact ⟨f :: fs, by simp [hl], Reps.cons.2 ⟨⟨c0, c1, c2, by simpa using h0, by simpa using h1, by simpa using h2, hr⟩, hrs⟩⟩)

set_option maxRecDepth 100000 in
theorem rep_of_trod : ∀ (fuel : Nat) (cs : List Value) (x : DataW H × List MemPlace), DataW.trod enc Try.prog W 0 spare held fuel 24 cs = some x →
    ∃ c0 c1 c2 f, cs = [c0, c1, c2] ∧ Rep W (fun _ => True) f (.agg #[c0, c1, c2]) := by
  intro fuel
  induction fuel using Nat.strongRecOn with
  | _ fuel ih =>
    intro cs x h; obtain ⟨xs, n, hfu, -, hl, hlen, hf⟩ := DataW.trod_struct Try.underlying24 h; rw [cells24] at hl
    match cs, hl with
    | [c0, c1, c2], _ =>
      have h0 := hf 0 _ rfl; have h1 := hf 1 _ rfl; have h2 := hf 2 _ rfl; simp at hlen
      match xs, hlen with
      | [y0, y1, y2], _ =>
        simp [cells3, cells9, cells22] at h0 h1 h2; obtain ⟨k, e0, -, -⟩ := DataW.trod_int Try.underlying3 h0; obtain ⟨s, e1, -, hs⟩ := DataW.trod_string Try.underlying9 h1; simp at e0 e1; subst e0 e1
        rcases DataW.trod_slice Try.underlying22 h2 with ⟨e2, -⟩ | ⟨a, len, cap, elems, rest, m, hm, e2, -, -, hlc, hcm, hel, hall, -⟩
        · simp at e2
          subst e2; exact ⟨_, _, _, .mk k s [], rfl, Rep.leaf hs⟩
        · simp at e2
          subst e2; obtain ⟨b, off, spot⟩ := a; by_cases hz : len = 0
          · subst hz
            (exact ⟨_, _, _, .mk k s [], rfl, Rep.def.2 ⟨_, cap, rfl, hs, Nat.zero_le _, hcm, fun h => absurd rfl h⟩⟩)
          · have hsp : spot = none := by
              (have hh := hall 0 (by omega)); (rw [cells24, List.getElem?_eq_getElem (by omega)] at hh); obtain ⟨cs', hcs, htr⟩ := Option.bind_eq_some_iff.1 hh; obtain ⟨-, hl3, hcell⟩ := World.cells?_some hcs; (obtain ⟨d0, d1, d2, f, rfl, -⟩ := ih m (by omega) cs' _ htr); (have g0 := hcell 0 (by omega)); simp [Addr.add] at g0; simpa using World.cell?_spot g0
            subst hsp
            obtain ⟨fs, hfl, hrs⟩ := reps_of (W := W) (b := b) (off := off) (len := len) (fun i hi => by
              have hh := hall i hi; (rw [cells24, List.getElem?_eq_getElem (by omega), add_none] at hh); obtain ⟨cs', hcs, htr⟩ := Option.bind_eq_some_iff.1 hh; obtain ⟨-, hl3, hcell⟩ := World.cells?_some hcs; (obtain ⟨d0, d1, d2, f, rfl, hr⟩ := ih m (by omega) cs' _ htr); (have g0 := hcell 0 (by omega)); (have g1 := hcell 1 (by omega)); (have g2 := hcell 2 (by omega)); rw [add_none] at g0 g1 g2
              exact ⟨d0, d1, d2, f, g0, g1, g2, hr⟩)
            subst hfl; (exact ⟨_, _, _, .mk k s fs, rfl, Rep.def.2 ⟨_, cap, rfl, hs, hlc, hcm, fun _ => ⟨b, off, rfl, trivial, hrs⟩⟩⟩)
end
end Go.Proofs.Ytclinobfbdljhah
