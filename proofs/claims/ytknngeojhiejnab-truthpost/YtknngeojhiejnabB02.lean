/- Texts of one proof, one behind the other: Check1, Check2, Check3, Build, Print1, Print3, Print4, Ref1, Law1, Back1, Open1, Math7, Tok1, Math9, Walk0, Vast2, Math11, Own1, Fault1. -/
import Derived.Test.YtknngeojhiejnabB01
import Derived.Lib.Builder
import Derived.Lib.AppendStr
import Derived.Lib.UnsafeStr
import Derived.Laws.Externs
import Derived.ProofKit
import Derived.Deep.Strs
import Derived.Deep.Slices
import Derived.Lib.SmallJoins
import Derived.Deep.DeepCutAuto
import Derived.Deep.CutBlock
import Derived.Deep.AppendLies
import Derived.Deep.RegionLaw
/- Walks: Check's small steps. -/
namespace Go.Proofs.Ytknngeojhiejnab
open Go.RowKit

theorem tup_ib {a a' : Int} {b b' : Bool} (h : a = a') (k : b = b') : Ending.returned (.tuple #[.int .i64 a, .bool b]) = .returned (.tuple #[.int .i64 a', .bool b']) := by rw [h, k]

set_option maxHeartbeats 1000000 in
theorem kidsOf_any (k : Int) (w : World) :
    Calls Try.prog 124 #[.int .i64 k] w fun e w' => e = .returned (.tuple #[.int .i64 (kidsN k), .bool (kindB k)]) ∧ w' = w := by
  go_enter Try.func124, Try.ntmps124
  go_wp2
  all_goals
    go_ret2
    refine ⟨tup_ib ?_ ?_, rfl⟩
  all_goals
    simp only [beq_iff_eq, beq_eq_false_iff_ne, ne_eq] at *
    first
      | (subst_vars; decide)
      | (unfold kidsN; rw [if_neg (by omega), if_neg (by omega)])
      | (unfold kindB; simp; omega)

set_option maxHeartbeats 1000000 in
theorem node_kind (k at_ : Int) (n : ByteArray) (sl : Option Addr) (len cap : Nat) (w : World) (h : kindB k = false) :
    Calls Try.prog 90 #[.agg #[.int .i64 k, .string n, .slice sl len cap], .int .i64 at_] w fun e w' => e = .panicked (stopC 4 at_) ∧ Below w.heap.size w w' := by
  go_enter Try.func90, Try.ntmps90
  go_wp2_with (first
    | (go_at_call 124; refine (kidsOf_any k _).mono ?_; rintro e w1 ⟨rfl, rfl⟩)
    | (go_at_call 89; refine (stop_any _ _ _).mono ?_; rintro e w4 ⟨rfl, rfl⟩)
    | fail)
  exact ⟨rfl, rfl, (Below.refl _ _).alloc (Nat.le_refl _) _⟩

set_option maxHeartbeats 1000000 in
theorem node_size (k at_ : Int) (n : ByteArray) (sl : Option Addr) (len cap : Nat) (w : World) (h : kindB k = true) (h2 : (len : Int) ≠ kidsN k) :
    Calls Try.prog 90 #[.agg #[.int .i64 k, .string n, .slice sl len cap], .int .i64 at_] w fun e w' => e = .panicked (stopC 9 at_) ∧ Below w.heap.size w w' := by
  go_enter Try.func90, Try.ntmps90
  go_wp2_with (first
    | (go_at_call 124; refine (kidsOf_any k _).mono ?_; rintro e w1 ⟨rfl, rfl⟩)
    | (go_at_call 89; refine (stop_any _ _ _).mono ?_; rintro e w4 ⟨rfl, rfl⟩)
    | fail)
  exact ⟨rfl, rfl, (Below.refl _ _).alloc (Nat.le_refl _) _⟩

set_option maxHeartbeats 1000000 in
theorem node_name (k at_ : Int) (n : ByteArray) (hn : n.size ≤ maxLen) (sl : Option Addr) (len cap : Nat) (w : World) (h : kindB k = true) (h2 : (len : Int) = kidsN k) (h3 : nameB k n = true) :
    Calls Try.prog 90 #[.agg #[.int .i64 k, .string n, .slice sl len cap], .int .i64 at_] w fun e w' => e = .panicked (stopC 8 at_) ∧ Below w.heap.size w w' := by
  have hin := isName_any n hn
  by_cases hk : k = 1
  · subst hk
    have h4 : isNm n.data.toList = false := by simpa [nameB] using h3
    rw [h4] at hin
    go_enter Try.func90, Try.ntmps90
    go_wp2_with (first
      | (go_at_call 124; refine (kidsOf_any 1 _).mono ?_; rintro e w1 ⟨rfl, rfl⟩)
      | (go_at_call 125; refine (hin _).mono ?_; rintro e w1 ⟨rfl, rfl⟩)
      | (go_at_call 89; refine (stop_any _ _ _).mono ?_; rintro e w4 ⟨rfl, rfl⟩)
      | fail)
    exact ⟨rfl, rfl, (Below.refl _ _).alloc (Nat.le_refl _) _⟩
  · have h4 : n.toList.isEmpty = false := by rw [ByteArray.toList_eq]; simpa [nameB, hk] using h3
    have hk1 : (k == 1) = false := by simpa using hk
    have hk2 : (k != 1) = true := by simpa using hk
    go_enter Try.func90, Try.ntmps90
    go_wp2_with (first
      | (go_at_call 124; refine (kidsOf_any k _).mono ?_; rintro e w1 ⟨rfl, rfl⟩)
      | (go_at_call 89; refine (stop_any _ _ _).mono ?_; rintro e w4 ⟨rfl, rfl⟩)
      | fail)
    exact ⟨rfl, rfl, (Below.refl _ _).alloc (Nat.le_refl _) _⟩

set_option maxHeartbeats 1000000 in
theorem node_fine (k at_ : Int) (n : ByteArray) (hn : n.size ≤ maxLen) (sl : Option Addr) (len cap : Nat) (w : World) (h : kindB k = true) (h2 : (len : Int) = kidsN k) (h3 : nameB k n = false) :
    Calls Try.prog 90 #[.agg #[.int .i64 k, .string n, .slice sl len cap], .int .i64 at_] w fun e w' => e = .returned (.tuple #[]) ∧ Below w.heap.size w w' := by
  have hin := isName_any n hn
  by_cases hk : k = 1
  · subst hk
    have h4 : isNm n.data.toList = true := by simpa [nameB] using h3
    rw [h4] at hin
    go_enter Try.func90, Try.ntmps90
    go_wp2_with (first
      | (go_at_call 124; refine (kidsOf_any 1 _).mono ?_; rintro e w1 ⟨rfl, rfl⟩)
      | (go_at_call 125; refine (hin _).mono ?_; rintro e w1 ⟨rfl, rfl⟩)
      | fail)
    go_end0
    exact ⟨rfl, (Below.refl _ _).alloc (Nat.le_refl _) _⟩
  · have h4 : n.toList = [] := by rw [ByteArray.toList_eq]; simpa [nameB, hk] using h3
    have hk1 : (k == 1) = false := by simpa using hk
    go_enter Try.func90, Try.ntmps90
    go_wp2_with (first
      | (go_at_call 124; refine (kidsOf_any k _).mono ?_; rintro e w1 ⟨rfl, rfl⟩)
      | fail)
    go_end0
    exact ⟨rfl, (Below.refl _ _).alloc (Nat.le_refl _) _⟩

theorem nodeF_some {k : Int} {n : ByteArray} {len : Nat} {c : Int} (h : nodeF k n len = some c) (at_ : Int) (hn : n.size ≤ maxLen) (sl : Option Addr) (cap : Nat) (w : World) :
    Calls Try.prog 90 #[.agg #[.int .i64 k, .string n, .slice sl len cap], .int .i64 at_] w fun e w' => e = .panicked (stopC c at_) ∧ Below w.heap.size w w' := by
  unfold nodeF at h
  split at h
  · rename_i h1; cases h; exact node_kind k at_ n sl len cap w h1
  · rename_i h1
    have h1 : kindB k = true := by simpa using h1
    split at h
    · rename_i h2; cases h; exact node_size k at_ n sl len cap w h1 h2
    · rename_i h2
      have h2 : (len : Int) = kidsN k := by simpa using h2
      split at h
      · rename_i h3; cases h; exact node_name k at_ n hn sl len cap w h1 h2 h3
      · cases h

theorem nodeF_none {k : Int} {n : ByteArray} {len : Nat} (h : nodeF k n len = none) (at_ : Int) (hn : n.size ≤ maxLen) (sl : Option Addr) (cap : Nat) (w : World) :
    Calls Try.prog 90 #[.agg #[.int .i64 k, .string n, .slice sl len cap], .int .i64 at_] w fun e w' => e = .returned (.tuple #[]) ∧ Below w.heap.size w w' := by
  unfold nodeF at h
  split at h
  · cases h
  · rename_i h1
    have h1 : kindB k = true := by simpa using h1
    split at h
    · cases h
    · rename_i h2
      have h2 : (len : Int) = kidsN k := by simpa using h2
      split at h
      · cases h
      · rename_i h3
        exact node_fine k at_ n hn sl len cap w h1 h2 (by simpa using h3)
end Go.Proofs.Ytknngeojhiejnab
/- Walks: Check's recursion. -/
namespace Go.Proofs.Ytknngeojhiejnab
open Go.RowKit

/-- The checker's block. -/
def RC (bc : Nat) (w : World) (s : Nat) : Prop := w.heap[bc]? = some (.cells #[.int .i64 s] 106 (0, 0))
theorem RC.lt {bc : Nat} {w : World} {s : Nat} (h : RC bc w s) : bc < w.heap.size := lt_of_block h
theorem RC.c0 {bc : Nat} {w : World} {s : Nat} (h : RC bc w s) : w.cell? ⟨bc, 0, none⟩ = some (.int .i64 s) := blk_cell h 0
theorem RC.fz {bc : Nat} {w : World} {s : Nat} (h : RC bc w s) : w.frozen? ⟨bc, 0, none⟩ = false := blk_fz h 0
theorem RC.alloc {bc : Nat} {w : World} {s : Nat} (h : RC bc w s) (o : Obj) : RC bc (w.alloc o) s := by
  unfold RC; rw [Below.heap_alloc _ _ _ h.lt]; exact h
theorem RC.set {bc : Nat} {w : World} {s : Nat} (h : RC bc w s) (s' : Nat) : RC bc (w.setCell ⟨bc, 0, none⟩ (.int .i64 s')) s' := by
  unfold RC at *; simp [World.setCell, Array.getElem?_modify, h]
theorem RC.below {bc : Nat} {w w' : World} {s : Nat} (h : RC bc w s) (hb : Below w.heap.size w w') : RC bc w' s := by
  unfold RC; rw [hb.block _ h.lt]; exact h

/-- What a look at a formula leaves. -/
def LPost (bc : Nat) : Chk → Ending → World → Prop
  | .ok s, e, w' => e = .returned (.tuple #[]) ∧ RC bc w' s
  | .bad c a, e, _ => e = .panicked (stopC c a)

def Looks (m : Nat) : Prop := ∀ (bc s : Nat) (f : Fm) (v : Value) (w : World), f.size < m → RC bc w s → s ≤ 200 → Rep w (· ≠ bc) f v →
  Calls Try.prog 76 #[.pointer (some ⟨bc, 0, none⟩), v] w fun e w' => Kept (· ≠ bc) w w' ∧ LPost bc (chk f s) e w'

theorem chks_drop {ks : List Fm} {i : Nat} {f : Fm} (h : ks[i]? = some f) (s : Nat) : chks (ks.drop i) s = match chk f s with | .bad c a => .bad c a | .ok s' => chks (ks.drop (i + 1)) s' := by
  have hi : i < ks.length := by
    rcases Nat.lt_or_ge i ks.length with h' | h'
    · exact h'
    · rw [List.getElem?_eq_none h'] at h; cases h
  rw [List.drop_eq_getElem_cons hi, chks]
  rw [List.getElem?_eq_getElem hi] at h
  rw [Option.some.inj h]
  cases chk f s <;> rfl

theorem sizes_get {ks : List Fm} {i : Nat} {f : Fm} (h : ks[i]? = some f) : f.size ≤ Fm.sizes ks := by
  induction ks generalizing i with
  | nil => simp at h
  | cons g gs ih =>
    cases i with
    | zero => simp at h; subst h; simp [Fm.sizes]
    | succ i => have := ih (i := i) (by simpa using h); simp [Fm.sizes]; omega

set_option maxHeartbeats 2000000 in
theorem look_step (m : Nat) (ih : Looks m) : Looks (m + 1) := by
  intro bc s f v w hm hc hs hrep
  obtain ⟨k, n, ks⟩ := f
  obtain ⟨sl, cap, rfl, hx1, hx2, hx3, hx4⟩ := Rep.def.1 hrep
  have f0 := hc.c0
  have f1 := hc.fz
  have z0 := hc.lt
  by_cases h200 : s = 200
  · subst h200
    go_enter Try.func76, Try.ntmps76
    go_wp2_with (first
      | (go_at_call 89; refine (stop_any _ _ _).mono ?_; rintro e w4 ⟨rfl, rfl⟩)
      | fail)
    refine ⟨rfl, (Kept.refl _ _).alloc _, ?_⟩
    simp only [chk, if_true, LPost]
    rfl
  · have hs1 : ((s : Int) == 200) = false := by simp; omega
    have hs2 : (s : Int) ≤ 200 := by omega
    rcases hnf : nodeF k n ks.length with _ | c
    · have hchk : chk (.mk k n ks) s = chks ks (s + 1) := by rw [chk, if_neg h200, hnf]
      rw [hchk]
      have HX : Hid (ks ≠ [] → ∃ b off, sl = some ⟨b, off, none⟩ ∧ b ≠ bc ∧ Reps w (· ≠ bc) b off ks) := hx4
      clear hx4
      have hlen : ((ks.length : Nat) : Int) ≤ 9223372036854775807 := by unfold maxLen at hx3; omega
      go_enter Try.func76, Try.ntmps76
      go_wp2_with (first
        | (go_at_call 90
           refine (nodeF_none hnf _ hx1 _ _ _).mono ?_
           rintro e w4 ⟨rfl, hb⟩
           have q4 : w4.heap[w.heap.size]? = some (.cells #[.int .i64 k, .string n, .slice sl ks.length cap] 37 (0, 0)) := by
             rw [hb.block _ (by simp [World.setCell])]
             have := blk_new (w.setCell ⟨bc, 0, none⟩ (.int .i64 (s + 1))) (.cells #[.int .i64 k, .string n, .slice sl ks.length cap] 37 (0, 0))
             simpa [World.setCell] using this
           have f2 := blk_cell q4 2
           simp at f2)
        | fail)
      have hc4 : RC bc w4 (s + 1) := ((hc.set (s + 1)).alloc _).below hb
      have hk4 : Kept (· ≠ bc) w w4 := (((Kept.refl _ _).setCell (by simp) _).alloc _).trans (kept_of_below hb (fun _ h _ => h))
      clear f0 f1 f2 hb
      go_loopg [27] ks.length (fun g v wr => ∃ i s', i ≤ ks.length ∧ g = ks.length - i ∧ v = .int .i64 (i : Nat) ∧ s' ≤ 200 ∧ RC bc wr s' ∧ Kept (· ≠ bc) w wr ∧ Hid (chks (ks.drop i) s' = chks ks (s + 1)))
      case atStart => exact ⟨0, s + 1, by omega, by omega, rfl, by omega, hc4, hk4, by show _ = _; simp⟩
      case round =>
        obtain ⟨i, s', hi, hg, rfl, hs', hcr, hkr, HC⟩ := hrel
        have HG : Hid (gk = ks.length - i) := hg
        clear hg hc4 hk4 q4
        by_cases hlt : i < ks.length
        · obtain ⟨b, off, hsl, hb, hrs⟩ := HX.out (fun e => by rw [e] at hlt; simp at hlt)
          subst hsl
          obtain ⟨⟨k2, n2, ks2⟩, hki⟩ : ∃ f, ks[i]? = some f := ⟨_, List.getElem?_eq_getElem hlt⟩
          obtain ⟨sl2, cap2, g0, g1, g2, hrep2⟩ := (hrs.kept hb hkr).at i k2 n2 ks2 hki
          have hlt2 : (i : Int) < (ks.length : Int) := by omega
          have hds := HC.out
          rw [chks_drop hki] at hds
          have hsz : (Fm.mk k2 n2 ks2).size < m := by have := sizes_get hki; rw [Fm.size] at hm; omega
          have HI : Hid (∀ w, RC bc w s' → Rep w (· ≠ bc) (.mk k2 n2 ks2) (.agg #[.int .i64 k2, .string n2, .slice sl2 ks2.length cap2]) → Calls Try.prog 76 #[.pointer (some ⟨bc, 0, none⟩), .agg #[.int .i64 k2, .string n2, .slice sl2 ks2.length cap2]] w fun e w' => Kept (· ≠ bc) w w' ∧ LPost bc (chk (.mk k2 n2 ks2) s') e w') := fun w h1 h2 => ih bc s' _ _ w hsz h1 hs' h2
          have HK : Hid (ks[i]? = some (.mk k2 n2 ks2)) := hki
          clear hki hrs hrep HX HC hnf hchk
          rcases hck : chk (.mk k2 n2 ks2) s' with s2 | ⟨c, a⟩
          · rw [hck] at hds HI
            simp only at hds
            have HD : Hid (chks (ks.drop (i + 1)) s2 = chks ks (s + 1)) := hds
            have hs2' := (chk_le _ _ _ hck hs').1
            clear hds hck
            go_wp2_with (first
              | (go_at_call 76
                 refine (HI.out _ (hcr.alloc _) (hrep2.kept ((Kept.refl _ _).alloc _))).mono ?_
                 rintro e w5 ⟨hk5, rfl, hc5⟩)
              | fail)
            go_roundg (ks.length - (i + 1))
            case measure => have := HG.out; omega
            case rel => exact ⟨i + 1, s2, by omega, rfl, by go_num, hs2', hc5, (hkr.alloc _).trans hk5, HD⟩
          · rw [hck] at hds HI
            simp only at hds
            have HD : Hid (Chk.bad c a = chks ks (s + 1)) := hds
            clear hds hck
            go_wp2_with (first
              | (go_at_call 76
                 refine (HI.out _ (hcr.alloc _) (hrep2.kept ((Kept.refl _ _).alloc _))).mono ?_
                 rintro e w5 ⟨hk5, he5⟩
                 obtain rfl : e = _ := he5)
              | fail)
            exact ⟨rfl, (hkr.alloc _).trans hk5, by rw [← HD.out]; rfl⟩
        · go_wp2_with fail
          go_end0
          refine ⟨hkr, ?_⟩
          rw [← HC.out, List.drop_of_length_le (by omega), chks]
          exact ⟨rfl, hcr⟩
    · go_enter Try.func76, Try.ntmps76
      go_wp2_with (first
        | (go_at_call 90
           refine (nodeF_some hnf _ hx1 _ _ _).mono ?_
           rintro e w4 ⟨rfl, hb⟩)
        | fail)
      refine ⟨rfl, (((Kept.refl _ _).setCell (by simp) _).alloc _).trans (kept_of_below hb (fun _ h _ => h)), ?_⟩
      rw [chk, if_neg h200, hnf]
      rfl
end Go.Proofs.Ytknngeojhiejnab
/- Walks: Check. -/
namespace Go.Proofs.Ytknngeojhiejnab
open Go.RowKit

theorem looks_all : ∀ m, Looks m
  | 0 => fun _ _ _ _ _ h => absurd h (Nat.not_lt_zero _)
  | m + 1 => look_step m (looks_all m)

theorem check1_in (cap : Array Value) (w : World) : (callFunc 75 cap).run Try.prog w = .ok (.enter 75 cap) w := by
  simp [go_sem]

set_option maxHeartbeats 1000000 in
theorem check1_any (bf : Nat) (k : Int) (n : ByteArray) (ks : List Fm) (sl : Option Addr) (cap : Nat) (w : World) (q0 : w.heap[bf]? = some (.cells #[.int .i64 k, .string n, .slice sl ks.length cap] 37 (0, 0)))
    (hrep : Rep w (fun _ => True) (.mk k n ks) (.agg #[.int .i64 k, .string n, .slice sl ks.length cap])) (x : Chk) (hx : chk (.mk k n ks) 0 = x) :
    Calls Try.prog 75 #[.pointer (some ⟨bf, 0, none⟩)] w fun e w' => Kept (fun _ => True) w w' ∧ match x with
      | .ok _ => e = .returned (.tuple #[])
      | .bad c a => e = .panicked (stopC c a) := by
  obtain ⟨g1, g2, g3, g4, g5, g6⟩ := blk3 q0
  have z0 := lt_of_block q0
  have hl := looks_all ((Fm.mk k n ks).size + 1) w.heap.size 0 (.mk k n ks) (.agg #[.int .i64 k, .string n, .slice sl ks.length cap]) (w.alloc (.cells #[.int .i64 0] 106 (0, 0))) (Nat.lt_succ_self _) (blk_new _ _) (by omega)
    (hrep.move fun b hb _ => ⟨Below.heap_alloc _ _ _ hb, by omega⟩)
  rw [hx] at hl
  have HL : Hid (Calls Try.prog 76 _ _ _) := hl
  clear hl hrep
  cases x with
  | ok s =>
    go_enter Try.func75, Try.ntmps75
    go_wp2_with (first
      | (go_at_call 76
         refine HL.out.mono ?_
         rintro e w1 ⟨hk1, rfl, -⟩)
      | fail)
    go_end0
    exact ⟨hk1.past, rfl⟩
  | bad c a =>
    go_enter Try.func75, Try.ntmps75
    go_wp2_with (first
      | (go_at_call 76
         refine HL.out.mono ?_
         rintro e w1 ⟨hk1, he⟩
         obtain rfl : e = _ := he)
      | fail)
    exact ⟨rfl, hk1.past, rfl⟩

theorem two_new {w : World} {o0 o1 o2 : Obj} : (((w.alloc o0).alloc o1).alloc o2).heap[w.heap.size]? = some o0 ∧ (((w.alloc o0).alloc o1).alloc o2).heap[w.heap.size + 1]? = some o1 := by
  have e1 : (w.alloc o0).heap.size = w.heap.size + 1 := by simp
  have e2 : ((w.alloc o0).alloc o1).heap.size = w.heap.size + 2 := by simp
  refine ⟨?_, ?_⟩
  · rw [Below.heap_alloc _ _ _ (by omega), Below.heap_alloc _ _ _ (by omega)]; exact blk_new _ _
  · rw [Below.heap_alloc _ _ _ (by omega), ← e1]; exact blk_new _ _

set_option maxHeartbeats 1000000 in
theorem check_any (f : Fm) (v : Value) (w : World) (hrep : Rep w (fun _ => True) f v) :
    Calls Try.prog 63 #[v] w fun e w' => e = .returned (.agg #[.int .i64 f.code.1, .int .i64 f.code.2]) ∧ Below w.heap.size w w' := by
  obtain ⟨k, n, ks⟩ := f
  obtain ⟨sl, cap, rfl, hx1, hx2, hx3, hx4⟩ := Rep.def.1 hrep
  clear hx4
  have hmf : ∀ (fn : Fn) (first cap : Array Value) (w : World), (Instr.makeFunc fn first cap).run Try.prog w = .ok (.func fn first cap) w := fun _ _ _ _ => rfl
  rcases hx : chk (.mk k n ks) 0 with s | ⟨c, a⟩
  · have hcode : (Fm.mk k n ks).code = (0, 0) := by simp only [Fm.code, hx]
    rw [hcode]
    go_enter Try.func63, Try.ntmps63
    go_wp2_with (first
      | (go_at_call 74
         refine (caught_ok 75 _ _ (fun w1 => w1.heap[w.heap.size + 1]? = some (.cells #[.int .i64 0, .int .i64 0] 25 (0, 0)) ∧ Below w.heap.size w w1) (check1_in _) ?_).mono ?_
         · refine (check1_any w.heap.size k n ks sl cap _ two_new.1 (hrep.move fun b hb _ => ⟨by rw [Below.heap_alloc _ _ _ (by simp; omega), Below.heap_alloc _ _ _ (by simp; omega), Below.heap_alloc _ _ _ hb], trivial⟩) _ hx).mono ?_
           rintro e w1 ⟨hk, rfl⟩
           exact ⟨rfl, (hk.block _ (by simp) trivial).trans (blk_new _ _), (hk.block _ (by simp) trivial).trans two_new.2, ((((Kept.refl _ w).alloc _).alloc _).alloc _ |>.trans hk).below (Nat.le_refl _) (fun _ _ => trivial)⟩
         rintro e w2 ⟨rfl, w1, ⟨q1, hb1⟩, hk2⟩
         have z1 := lt_of_block q1
         have q3 := (hk2.block _ z1 (by simp)).trans q1
         obtain ⟨k1, k2, k3, k4⟩ := blk2 q3)
      | fail)
    have hz := hb1.size
    have hz2 := hk2.size
    have b1 : Below w.heap.size w w2 := ((kept_of_below (ok := fun k => k < w.heap.size) hb1 (fun _ _ h => h)).trans (hk2.mono (fun k _ h => by simp; omega))).below (Nat.le_refl _) (fun _ h => h)
    have f2 := set2 q3 (.int .i64 0) (.int .i64 0)
    have b2 := (b1.setCell (p := ⟨w.heap.size + 1, 0, none⟩) (by simp) (.int .i64 0)).setCell (p := ⟨w.heap.size + 1, 1, none⟩) (by simp) (.int .i64 0)
    generalize World.setCell _ _ _ = F at f2 b2 ⊢
    clear k1 k2 k3 k4
    obtain ⟨k1, k2, -⟩ := blk2 f2
    exact bodyPost_ret (v := .agg #[.int .i64 0, .int .i64 0]) (by simp [results, Try.results63, go_sem, k1, k2]) rfl ⟨rfl, b2⟩
  · have hcode : (Fm.mk k n ks).code = (c, (a : Int)) := by simp only [Fm.code, hx]
    rw [hcode]
    go_enter Try.func63, Try.ntmps63
    go_wp2_with (first
      | (go_at_call 74
         refine (caught_bad 75 _ _ (fun w1 => w1.heap[w.heap.size + 1]? = some (.cells #[.int .i64 0, .int .i64 0] 25 (0, 0)) ∧ Below w.heap.size w w1) c a (check1_in _) ?_).mono ?_
         · refine (check1_any w.heap.size k n ks sl cap _ two_new.1 (hrep.move fun b hb _ => ⟨by rw [Below.heap_alloc _ _ _ (by simp; omega), Below.heap_alloc _ _ _ (by simp; omega), Below.heap_alloc _ _ _ hb], trivial⟩) _ hx).mono ?_
           rintro e w1 ⟨hk, rfl⟩
           exact ⟨rfl, (hk.block _ (by simp) trivial).trans (blk_new _ _), (hk.block _ (by simp) trivial).trans two_new.2, ((((Kept.refl _ w).alloc _).alloc _).alloc _ |>.trans hk).below (Nat.le_refl _) (fun _ _ => trivial)⟩
         rintro e w2 ⟨rfl, w1, ⟨q1, hb1⟩, hk2⟩
         have z1 := lt_of_block q1
         have q3 := (hk2.block _ z1 (by simp)).trans q1
         obtain ⟨k1, k2, k3, k4⟩ := blk2 q3)
      | fail)
    have hz := hb1.size
    have hz2 := hk2.size
    have b1 : Below w.heap.size w w2 := ((kept_of_below (ok := fun k => k < w.heap.size) hb1 (fun _ _ h => h)).trans (hk2.mono (fun k _ h => by simp; omega))).below (Nat.le_refl _) (fun _ h => h)
    have f2 := set2 q3 (.int .i64 c) (.int .i64 a)
    have b2 := (b1.setCell (p := ⟨w.heap.size + 1, 0, none⟩) (by simp) (.int .i64 c)).setCell (p := ⟨w.heap.size + 1, 1, none⟩) (by simp) (.int .i64 a)
    generalize World.setCell _ _ _ = F at f2 b2 ⊢
    clear k1 k2 k3 k4
    obtain ⟨k1, k2, -⟩ := blk2 f2
    exact bodyPost_ret (v := .agg #[.int .i64 c, .int .i64 a]) (by simp [results, Try.results63, go_sem, k1, k2]) rfl ⟨rfl, b2⟩
end Go.Proofs.Ytknngeojhiejnab
/- Walks: the builder inside a writer: the same two cells, in a block of the writer's type. -/
namespace Go.Proofs.Ytknngeojhiejnab
open Go.RowKit

/-- All that was there is as it was, but the writer's own block and blocks of bytes. -/
structure WK (b : Nat) (w w' : World) : Prop where
  size : w.heap.size ≤ w'.heap.size
  block : ∀ k o, w.heap[k]? = some o → k ≠ b → (∀ c fr, o ≠ .cells c 5 fr) → w'.heap[k]? = some o

theorem WK.refl (b : Nat) (w : World) : WK b w w := ⟨Nat.le_refl _, fun _ _ h _ _ => h⟩
theorem WK.trans {b : Nat} {w w1 w2 : World} (h : WK b w w1) (k : WK b w1 w2) : WK b w w2 :=
  ⟨Nat.le_trans h.size k.size, fun i o hi hb ho => k.block i o (h.block i o hi hb ho) hb ho⟩
theorem WK.alloc {b : Nat} {w w1 : World} (h : WK b w w1) (o : Obj) : WK b w (w1.alloc o) :=
  h.trans ⟨by simp, fun k _ hk _ _ => (Below.heap_alloc _ _ _ (lt_of_block hk)).trans hk⟩
theorem WK.set {b : Nat} {w w1 : World} (h : WK b w w1) (o : Nat) (v : Value) : WK b w (w1.setCell ⟨b, o, none⟩ v) :=
  h.trans ⟨by simp [World.setCell], fun _ _ hk hb _ => (Below.heap_setCell _ _ _ _ hb).trans hk⟩
theorem WK.drewN {b : Nat} {w w1 : World} (h : WK b w w1) (n : Nat) : WK b w (w1.drewN n) := ⟨h.size, h.block⟩
theorem WK.drew {b : Nat} {w w1 : World} (h : WK b w w1) : WK b w w1.drew := ⟨h.size, h.block⟩

end Go.Proofs.Ytknngeojhiejnab
/- Walks: the writer. -/
namespace Go.Proofs.Ytknngeojhiejnab
open Go.RowKit

theorem Rep.low {w w' : World} {B : Nat} {f : Fm} {v : Value} (h : Rep w (· < B) f v) (hb : Below B w w') : Rep w' (· < B) f v :=
  h.move fun b _ hb2 => ⟨hb.block b hb2, hb2⟩

theorem Reps.low {w w' : World} {B b off : Nat} {fs : List Fm} (h : Reps w (· < B) b off fs) (hb : b < B) (hk : Below B w w') : Reps w' (· < B) b off fs :=
  h.kept hb (kept_of_below hk (fun _ _ h => h))

end Go.Proofs.Ytknngeojhiejnab
/- Walks: the writer, three. -/
namespace Go.Proofs.Ytknngeojhiejnab
open Go.RowKit

theorem slice_shape {w : World} {ok : Nat → Prop} {k : Int} {n : ByteArray} {ks : List Fm} {v : Value} (h : Rep w ok (.mk k n ks) v) : ∃ sl cap, v = .agg #[.int .i64 k, .string n, .slice sl ks.length cap] := by
  obtain ⟨sl, cap, hv, _⟩ := Rep.def.1 h
  exact ⟨sl, cap, hv⟩

end Go.Proofs.Ytknngeojhiejnab
/- Walks: Print. -/
namespace Go.Proofs.Ytknngeojhiejnab
open Go.RowKit

theorem chk_size {f : Fm} {s : Nat} (h : chk f 0 = .ok s) : f.size ≤ 200 := by have := chk_le f 0 s h (by omega); omega

end Go.Proofs.Ytknngeojhiejnab
/- Walks: what the laws' own yardstick does with formulas. -/
namespace Go.Proofs.Ytknngeojhiejnab
open Go.RowKit

theorem Rep.up {w w' : World} {f : Fm} {v : Value} (h : Rep w (fun _ => True) f v) (hb : Below w.heap.size w w') : Rep w' (fun _ => True) f v :=
  h.move fun b hb1 _ => ⟨hb.block b hb1, trivial⟩
theorem Reps.up {w w' : World} {b off : Nat} {fs : List Fm} (h : Reps w (fun _ => True) b off fs) (hb : Below w.heap.size w w') : Reps w' (fun _ => True) b off fs :=
  h.kept trivial (kept_of_below hb (fun _ h _ => h))

end Go.Proofs.Ytknngeojhiejnab
/- Walks: what the laws lean on. -/
namespace Go.Proofs.Ytknngeojhiejnab
open Go.RowKit

/-- The document's example. -/
def f0 : Fm := .mk 7 e0 [.mk 7 e0 [nmF [112], nmF [113]], .mk 5 e0 [nmF [112], .mk 4 e0 [.mk 2 e0 []]]]
end Go.Proofs.Ytknngeojhiejnab
/- Walks: FormulaBack. -/
namespace Go.Proofs.Ytknngeojhiejnab
open Go.RowKit

theorem below_keep {w w' : World} {k : Nat} {o : Obj} (hb : Below w.heap.size w w') (h : w.heap[k]? = some o) : w'.heap[k]? = some o := (hb.block k (lt_of_block h)).trans h
theorem alloc_keep {w : World} {k : Nat} {o : Obj} (h : w.heap[k]? = some o) (o' : Obj) : (w.alloc o').heap[k]? = some o := (Below.heap_alloc _ _ _ (lt_of_block h)).trans h
theorem below_join {W w w' : World} (h : Below W.heap.size W w) (hb : Below w.heap.size w w') : Below W.heap.size W w' := h.trans (hb.mono h.size)
theorem below_more {W w : World} (h : Below W.heap.size W w) (o : Obj) : Below W.heap.size W (w.alloc o) := h.alloc h.size o

theorem Rep.all {w : World} {ok : Nat → Prop} {f : Fm} {v : Value} (h : Rep w ok f v) : Rep w (fun _ => True) f v := h.move fun _ _ _ => ⟨rfl, trivial⟩
theorem Rep.more {w : World} {f : Fm} {v : Value} (h : Rep w (fun _ => True) f v) (o : Obj) : Rep (w.alloc o) (fun _ => True) f v := h.up ((Below.refl _ _).alloc (Nat.le_refl _) _)

end Go.Proofs.Ytknngeojhiejnab
/- A formula that came in, as data. -/
namespace Go.Proofs.Ytknngeojhiejnab
open Go.RowKit

theorem cells3 : Try.prog.cellsOf 3 = 1 := by kernel_rfl
theorem add_none (b off n : Nat) : (⟨b, off, none⟩ : Addr).add n = ⟨b, off + n, none⟩ := by
  by_cases h : n = 0 <;> simp [Addr.add, h]

end Go.Proofs.Ytknngeojhiejnab
/- The plain mathematics of layer 1, seven: the yardstick's tokens. -/
namespace Go.Proofs.Ytknngeojhiejnab

/-- The signs, in the yardstick's order. -/
def sg (k : Nat) : List UInt8 := [[45, 62], [91, 93], [60, 62], [126], [38], [124], [40], [41], [49], [48]].getD k []

/-- The first sign from number k on with which r begins. -/
def signAt : Nat → Nat → List UInt8 → Option Nat
  | 0, _, _ => none
  | m + 1, k, r => if (sg k).isPrefixOf r then some k else signAt m (k + 1) r

/-- A token: its text, and what is left from it on and behind it. -/
def tok (l : List UInt8) : List UInt8 × List UInt8 × List UInt8 :=
  let r := skipB l
  if r = [] then ([], r, r) else
  match signAt 10 0 r with
  | some k => (sg k, r, r.drop (sg k).length)
  | none => if isNm (letters r) then (letters r, r, r.drop (letters r).length) else ([63], r, r.drop 1)

end Go.Proofs.Ytknngeojhiejnab
/- Walks: the yardstick's names and tokens. -/
namespace Go.Proofs.Ytknngeojhiejnab
open Go.RowKit

/-- What a token is answered as. -/
def TPost (t : ByteArray) (l : List UInt8) (w : World) (e : Ending) (w' : World) : Prop :=
  ∃ a1 a2, e = .returned (.tuple #[.string ⟨(tok l).1.toArray⟩, .int .i64 (a1 : Nat), .int .i64 (a2 : Nat)]) ∧ At t a1 (tok l).2.1 ∧ At t a2 (tok l).2.2 ∧ Below w.heap.size w w'

theorem TPost.of {t : ByteArray} {l : List UInt8} {w w' : World} {s : ByteArray} {x y : Int} (a1 a2 : Nat) {tk r q : List UInt8} (ht : tok l = (tk, r, q)) (hs : s = ⟨tk.toArray⟩) (hx : x = a1) (hy : y = a2) (h1 : At t a1 r) (h2 : At t a2 q) (hb : Below w.heap.size w w') :
    TPost t l w (.returned (.tuple #[.string s, .int .i64 x, .int .i64 y])) w' := by
  subst hs hx hy
  exact ⟨a1, a2, by rw [ht], by rw [ht]; exact h1, by rw [ht]; exact h2, hb⟩

end Go.Proofs.Ytknngeojhiejnab
/- The plain mathematics of layer 1, nine: a formula's nodes, at most so many. -/
namespace Go.Proofs.Ytknngeojhiejnab

/-! All nodes, each ahead of its kids. -/
mutual
def allN : Fm → List Fm
  | .mk k n ks => .mk k n ks :: allNs ks
def allNs : List Fm → List Fm
  | [] => []
  | f :: fs => allN f ++ allNs fs
end
mutual
theorem allN_len : ∀ f : Fm, (allN f).length = f.size
  | .mk k n ks => by rw [allN, List.length_cons, allNs_len ks, Fm.size]
theorem allNs_len : ∀ fs : List Fm, (allNs fs).length = Fm.sizes fs
  | [] => by rw [allNs, Fm.sizes]; rfl
  | f :: fs => by rw [allNs, List.length_append, allN_len f, allNs_len fs, Fm.sizes]
end

end Go.Proofs.Ytknngeojhiejnab
/- Walks: a formula's nodes in a list. -/
namespace Go.Proofs.Ytknngeojhiejnab
open Go.RowKit

/-- Cells, three by three, that are formulas over blocks below B. -/
def LR (B : Nat) (w : World) : List Value → List Fm → Prop
  | [], [] => True
  | c0 :: c1 :: c2 :: cs, f :: fs => Rep w (· < B) f (.agg #[c0, c1, c2]) ∧ LR B w cs fs
  | _, _ => False

theorem LR.len {B : Nat} {w : World} : ∀ {cs : List Value} {fs : List Fm}, LR B w cs fs → cs.length = fs.length * 3
  | [], [], _ => rfl
  | _ :: _ :: _ :: _, _ :: _, h => by have := LR.len h.2; simp; omega
theorem LR.append {B : Nat} {w : World} : ∀ {cs : List Value} {fs : List Fm} {ds : List Value} {gs : List Fm}, LR B w cs fs → LR B w ds gs → LR B w (cs ++ ds) (fs ++ gs)
  | [], [], _, _, _, k => k
  | _ :: _ :: _ :: _, _ :: _, _, _, h, k => ⟨h.1, LR.append h.2 k⟩
theorem LR.low {B : Nat} {w w' : World} (hb : Below B w w') : ∀ {cs : List Value} {fs : List Fm}, LR B w cs fs → LR B w' cs fs
  | [], [], _ => trivial
  | _ :: _ :: _ :: _, _ :: _, h => ⟨h.1.low hb, LR.low hb h.2⟩
theorem LR.one {B : Nat} {w : World} : ∀ {cs : List Value} {fs : List Fm}, LR B w cs fs → ∀ u ∈ cs, u.oneCell' = true
  | [], [], _, u, hu => by cases hu
  | c0 :: c1 :: c2 :: cs, .mk k n ks :: fs, h, u, hu => by
    obtain ⟨sl, cap, hv, _⟩ := Rep.def.1 h.1
    simp only [Value.agg.injEq, Array.mk.injEq, List.cons.injEq, and_true] at hv
    obtain ⟨rfl, rfl, rfl⟩ := hv
    simp only [List.mem_cons] at hu
    rcases hu with rfl | rfl | rfl | hu
    · rfl
    · rfl
    · rfl
    · exact LR.one h.2 u hu

theorem owns_up {w w' : World} {B size n : Nat} {e : TypeId} {v : Value} {xs : List Value} (h : w.ownsRow B e size v n xs) (hb : Below w.heap.size w w') : w'.ownsRow B e size v n xs := by
  obtain ⟨h1, h2⟩ := h
  refine ⟨h1, ?_⟩
  rcases h2 with h2 | ⟨g, cap, cur, hv, hg, hh, r⟩
  · exact Or.inl h2
  · exact Or.inr ⟨g, cap, cur, hv, hg, below_keep hb hh, r⟩

/-- A list of formulas that a call has made, from block B on. -/
def LO (A B : Nat) (w : World) (v : Value) (fs : List Fm) : Prop := ∃ g cap cs, v = .slice (some ⟨g, 0, none⟩) fs.length cap ∧ w.ownsRow B 37 3 v fs.length cs ∧ LR A w cs fs

end Go.Proofs.Ytknngeojhiejnab
/- Walks: a formula that is not vast; cells that are formulas. -/
namespace Go.Proofs.Ytknngeojhiejnab
open Go.RowKit

/-- No node has more than 25000 kids. -/
inductive Slim : Fm → Prop
  | mk (k : Int) (n : ByteArray) (ks : List Fm) (h : ks.length ≤ 25000) (hk : ∀ (i : Nat) (f : Fm), ks[i]? = some f → Slim f) : Slim (.mk k n ks)
theorem Slim.len {k : Int} {n : ByteArray} {ks : List Fm} (h : Slim (.mk k n ks)) : ks.length ≤ 25000 := by cases h; assumption
theorem Slim.kid {k : Int} {n : ByteArray} {ks : List Fm} (h : Slim (.mk k n ks)) (i : Nat) (f : Fm) (hi : ks[i]? = some f) : Slim f := by
  cases h with
  | mk _ _ _ _ hk => exact hk i f hi

/-- Cells, three by three, that are formulas over blocks for which ok holds. -/
def LQ (ok : Nat → Prop) (w : World) : List Value → List Fm → Prop
  | [], [] => True
  | c0 :: c1 :: c2 :: cs, f :: fs => Rep w ok f (.agg #[c0, c1, c2]) ∧ LQ ok w cs fs
  | _, _ => False

theorem LQ.len {ok : Nat → Prop} {w : World} : ∀ {cs : List Value} {fs : List Fm}, LQ ok w cs fs → cs.length = fs.length * 3
  | [], [], _ => rfl
  | _ :: _ :: _ :: _, _ :: _, h => by have := LQ.len h.2; simp; omega
theorem LQ.append {ok : Nat → Prop} {w : World} : ∀ {cs : List Value} {fs : List Fm} {ds : List Value} {gs : List Fm}, LQ ok w cs fs → LQ ok w ds gs → LQ ok w (cs ++ ds) (fs ++ gs)
  | [], [], _, _, _, k => k
  | _ :: _ :: _ :: _, _ :: _, _, _, h, k => ⟨h.1, LQ.append h.2 k⟩
theorem LQ.move {ok ok' : Nat → Prop} {w w' : World} (hm : ∀ b, b < w.heap.size → ok b → w'.heap[b]? = w.heap[b]? ∧ ok' b) : ∀ {cs : List Value} {fs : List Fm}, LQ ok w cs fs → LQ ok' w' cs fs
  | [], [], _ => trivial
  | _ :: _ :: _ :: _, _ :: _, h => ⟨h.1.move hm, LQ.move hm h.2⟩
theorem LQ.reps {ok : Nat → Prop} {w : World} {b : Nat} : ∀ {cs : List Value} {fs : List Fm} (off : Nat), LQ ok w cs fs → (∀ (j : Nat) (u : Value), cs[j]? = some u → w.cell? ⟨b, off + j, none⟩ = some u) → Reps w ok b off fs
  | [], [], _, _, _ => Reps.nil
  | c0 :: c1 :: c2 :: cs, f :: fs, off, h, hc => Reps.cons.2 ⟨⟨c0, c1, c2, hc 0 c0 rfl, hc 1 c1 rfl, hc 2 c2 rfl, h.1⟩, LQ.reps (off + 3) h.2 fun j u hu => by
      have := hc (j + 3) u (by simpa using hu)
      rwa [show off + (j + 3) = off + 3 + j by omega] at this⟩
end Go.Proofs.Ytknngeojhiejnab
/- The plain mathematics of layer 1, eleven: Check, node by node in a list. -/
namespace Go.Proofs.Ytknngeojhiejnab

/-- The first fault of a list of nodes, from number s on. -/
def run : List Fm → Nat → Chk
  | [], s => .ok s
  | .mk k n ks :: fs, s => if s = 200 then .bad 2 0 else match nodeF k n ks.length with
    | some c => .bad c s
    | none => run fs (s + 1)

end Go.Proofs.Ytknngeojhiejnab
/- Walks: a copy of a formula. -/
namespace Go.Proofs.Ytknngeojhiejnab
open Go.RowKit

/-- What a copy has made so far: the list of its kids. -/
def KO (B : Nat) (w : World) (ad : Option Addr) (cap : Nat) (fs : List Fm) : Prop := ∃ cs, w.ownsRow B 37 3 (.slice ad fs.length cap) fs.length cs ∧ LQ (fun b => B ≤ b ∧ (Value.slice ad fs.length cap).ownBlock ≠ some b) w cs fs

theorem KO.nil {B : Nat} {w : World} : KO B w none 0 [] := ⟨[], ⟨rfl, Or.inl ⟨rfl, rfl⟩⟩, trivial⟩
theorem KO.same {B : Nat} {w w' : World} {ad : Option Addr} {cap : Nat} {fs : List Fm} (h : KO B w ad cap fs) (hb : ∀ b, B ≤ b → b < w.heap.size → w'.heap[b]? = w.heap[b]?) : KO B w' ad cap fs := by
  obtain ⟨cs, ⟨h1, h2⟩, h3⟩ := h
  refine ⟨cs, ⟨h1, ?_⟩, h3.move fun b hb1 hb2 => ⟨hb b hb2.1 hb1, hb2⟩⟩
  rcases h2 with h2 | ⟨g, cap, cur, hv, hg, hh, r⟩
  · exact Or.inl h2
  · exact Or.inr ⟨g, cap, cur, hv, hg, (hb g hg (lt_of_block hh)).trans hh, r⟩
theorem KO.up {B : Nat} {w w' : World} {ad : Option Addr} {cap : Nat} {fs : List Fm} (h : KO B w ad cap fs) (hb : Below w.heap.size w w') : KO B w' ad cap fs := h.same fun b _ hb1 => hb.block b hb1

/-- One kid more. -/
theorem KO.app {B : Nat} {w1 w3 : World} {o : Obj} {ad : Option Addr} {cp : Nat} {fs : List Fm} {kid : Fm} {c0 c1 c2 : Value} {cs : List Value} {g3 cp3 i : Nat} (hi : fs.length = i) (hB : B ≤ w1.heap.size)
    (hown : (w1.alloc o).ownsRow B 37 3 (.slice ad i cp) i cs) (hlq : LQ (fun b => B ≤ b ∧ (Value.slice ad i cp).ownBlock ≠ some b) (w1.alloc o) cs fs)
    (hrep : Rep w1 (fun b => B ≤ b ∧ (Value.slice ad i cp).ownBlock ≠ some b) kid (.agg #[c0, c1, c2]))
    (hown3 : w3.ownsRow B 37 3 (.slice (some ⟨g3, 0, none⟩) (i + 1) cp3) (i + 1) (cs ++ [c0, c1, c2]))
    (hgrow : (w1.alloc o).grownBy w3 (Value.slice ad i cp).ownBlock) (hat : (Value.slice ad i cp).ownBlock = some g3 ∨ g3 = (w1.alloc o).heap.size) :
    Below B w1 w3 ∧ KO B w3 (some ⟨g3, 0, none⟩) cp3 (fs ++ [kid]) := by
  subst hi
  have hs : (w1.alloc o).heap.size = w1.heap.size + 1 := by simp
  have hs2 := hgrow.size
  refine ⟨⟨hgrow.os, hgrow.tape, hgrow.output, by omega, fun j hj => ?_⟩, cs ++ [c0, c1, c2], ?_, ?_⟩
  · rw [hgrow.block j (by omega) (fun e => by have := (hown.lt j e.symm).1; omega), Below.heap_alloc _ _ _ (by omega)]
  · rw [List.length_append]; exact hown3
  · refine (hlq.append (ds := [c0, c1, c2]) (gs := [kid]) ⟨hrep.move fun b hb hok => ⟨Below.heap_alloc _ _ _ hb, hok⟩, trivial⟩).move fun b hb hok => ⟨hgrow.block b hb (fun e => hok.2 e.symm), hok.1, fun e => ?_⟩
    have e : g3 = b := by simpa [Value.ownBlock] using e
    rcases hat with h | h
    · exact hok.2 (by rw [h, e])
    · omega

/-- The list is a formula's kids. -/
theorem KO.rep {B : Nat} {w : World} {ad : Option Addr} {cap : Nat} {ks : List Fm} (h : KO B w ad cap ks) (k : Int) (n : ByteArray) (hn : n.size ≤ maxLen) : Rep w (B ≤ ·) (.mk k n ks) (.agg #[.int .i64 k, .string n, .slice ad ks.length cap]) := by
  obtain ⟨cs, hown, hlq⟩ := h
  rcases hown.2 with ⟨hv, h0⟩ | ⟨g, cp, cur, hv, hg, hh, h1, h2, -⟩
  · simp only [Value.slice.injEq] at hv
    obtain ⟨rfl, -, rfl⟩ := hv
    exact Rep.def.2 ⟨none, 0, rfl, hn, by omega, by simp, fun hne => absurd (List.length_eq_zero_iff.1 h0) hne⟩
  · simp only [Value.slice.injEq, true_and] at hv
    obtain ⟨rfl, rfl⟩ := hv
    refine Rep.def.2 ⟨_, cap, rfl, hn, h1, h2, fun _ => ⟨g, 0, rfl, hg, ?_⟩⟩
    have := (hlq.move (ok' := (B ≤ ·)) fun b _ hb => ⟨rfl, hb.1⟩).reps (b := g) 0 fun j u hu => by
      have := hown.cells (g := g) rfl j u hu
      rw [add_none] at this
      exact this
    exact this

end Go.Proofs.Ytknngeojhiejnab
/- Walks: FormulaFault of the yardstick. -/
namespace Go.Proofs.Ytknngeojhiejnab
open Go.RowKit

theorem LR.reps {A : Nat} {w : World} {b : Nat} : ∀ {cs : List Value} {fs : List Fm} (off : Nat), LR A w cs fs → (∀ (j : Nat) (u : Value), cs[j]? = some u → w.cell? ⟨b, off + j, none⟩ = some u) → Reps w (fun _ => True) b off fs
  | [], [], _, _, _ => Reps.nil
  | c0 :: c1 :: c2 :: cs, f :: fs, off, h, hc => Reps.cons.2 ⟨⟨c0, c1, c2, hc 0 c0 rfl, hc 1 c1 rfl, hc 2 c2 rfl, h.1.all⟩, LR.reps (off + 3) h.2 fun j u hu => by
      have := hc (j + 3) u (by simpa using hu)
      rwa [show off + (j + 3) = off + 3 + j by omega] at this⟩

/-- A list that a call has made, as kids are. -/
theorem LO.reps {A B : Nat} {w : World} {v : Value} {fs : List Fm} (h : LO A B w v fs) : ∃ g cap, v = .slice (some ⟨g, 0, none⟩) fs.length cap ∧ fs.length ≤ cap ∧ cap ≤ maxLen ∧ Reps w (fun _ => True) g 0 fs := by
  obtain ⟨g, cap, cs, rfl, hown, hlr⟩ := h
  rcases hown.2 with ⟨hv, h0⟩ | ⟨g', cp, cur, hv, hg, hh, h1, h2, -⟩
  · cases hv
  · simp only [Value.slice.injEq, true_and] at hv
    obtain ⟨-, rfl⟩ := hv
    refine ⟨g, cap, rfl, h1, h2, hlr.reps 0 fun j u hu => ?_⟩
    have := hown.cells (g := g) rfl j u hu
    rw [add_none] at this
    exact this

theorem Rep.name {w : World} {ok : Nat → Prop} {k : Int} {n : ByteArray} {ks : List Fm} {v : Value} (h : Rep w ok (.mk k n ks) v) : n.size ≤ maxLen ∧ ks.length ≤ maxLen := by
  obtain ⟨sl, cap, -, h1, h2, h3, -⟩ := Rep.def.1 h
  exact ⟨h1, by omega⟩

def Chk.code : Chk → Int × Int
  | .ok _ => (0, 0)
  | .bad c a => (c, a)
end Go.Proofs.Ytknngeojhiejnab
