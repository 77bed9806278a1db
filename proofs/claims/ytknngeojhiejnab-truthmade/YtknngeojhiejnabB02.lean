/- Texts of one proof, one behind the other: Check1, Check2, Check3, Build, Print1, Print3, Print4, Ref1, Law1, Back1, Open1, Math7, Tok1, Math9. -/
import Derived.Test.YtknngeojhiejnabB01
import Derived.Lib.Builder
import Derived.Lib.AppendStr
import Derived.Lib.UnsafeStr
import Derived.Laws.Externs
import Derived.ProofKit
import Derived.Deep.Strs
import Derived.Deep.Slices
import Derived.Lib.SmallJoins
/- Walks: Check's small steps. -/
namespace Go.Proofs.Ytknngeojhiejnab
open Go.RowKit

theorem tup_ib {a a' : Int} {b b' : Bool} (h : a = a') (k : b = b') : Ending.returned (.tuple #[.int .i64 a, .bool b]) = .returned (.tuple #[.int .i64 a', .bool b']) := by rw [h, k]

set_option maxHeartbeats 1000000 in
theorem kidsOf_any (k : Int) (w : World) :
    Calls Try.prog 124 #[.int .i64 k] w fun e w' => e = .returned (.tuple #[.int .i64 (kidsN k), .bool (kindB k)]) ∧ w' = w := by
  go_enter Try.func124, Try.ntmps124
  go_wp2
  all_goals
    go_ret2
    refine ⟨tup_ib ?_ ?_, rfl⟩
  all_goals
    simp only [beq_iff_eq, beq_eq_false_iff_ne, ne_eq] at *
    first
      | (subst_vars; decide)
      | (unfold kidsN; rw [if_neg (by omega), if_neg (by omega)])
      | (unfold kindB; simp; omega)

set_option maxHeartbeats 1000000 in
theorem node_kind (k at_ : Int) (n : ByteArray) (sl : Option Addr) (len cap : Nat) (w : World) (h : kindB k = false) :
    Calls Try.prog 90 #[.agg #[.int .i64 k, .string n, .slice sl len cap], .int .i64 at_] w fun e w' => e = .panicked (stopC 4 at_) ∧ Below w.heap.size w w' := by
  go_enter Try.func90, Try.ntmps90
  go_wp2_with (first
    | (go_at_call 124; refine (kidsOf_any k _).mono ?_; rintro e w1 ⟨rfl, rfl⟩)
    | (go_at_call 89; refine (stop_any _ _ _).mono ?_; rintro e w4 ⟨rfl, rfl⟩)
    | fail)
  exact ⟨rfl, rfl, (Below.refl _ _).alloc (Nat.le_refl _) _⟩

set_option maxHeartbeats 1000000 in
theorem node_size (k at_ : Int) (n : ByteArray) (sl : Option Addr) (len cap : Nat) (w : World) (h : kindB k = true) (h2 : (len : Int) ≠ kidsN k) :
    Calls Try.prog 90 #[.agg #[.int .i64 k, .string n, .slice sl len cap], .int .i64 at_] w fun e w' => e = .panicked (stopC 9 at_) ∧ Below w.heap.size w w' := by
  go_enter Try.func90, Try.ntmps90
  go_wp2_with (first
    | (go_at_call 124; refine (kidsOf_any k _).mono ?_; rintro e w1 ⟨rfl, rfl⟩)
    | (go_at_call 89; refine (stop_any _ _ _).mono ?_; rintro e w4 ⟨rfl, rfl⟩)
    | fail)
  exact ⟨rfl, rfl, (Below.refl _ _).alloc (Nat.le_refl _) _⟩

set_option maxHeartbeats 1000000 in
theorem node_name (k at_ : Int) (n : ByteArray) (hn : n.size ≤ maxLen) (sl : Option Addr) (len cap : Nat) (w : World) (h : kindB k = true) (h2 : (len : Int) = kidsN k) (h3 : nameB k n = true) :
    Calls Try.prog 90 #[.agg #[.int .i64 k, .string n, .slice sl len cap], .int .i64 at_] w fun e w' => e = .panicked (stopC 8 at_) ∧ Below w.heap.size w w' := by
  have hin := isName_any n hn
  by_cases hk : k = 1
  · subst hk
    have h4 : isNm n.data.toList = false := by simpa [nameB] using h3
    rw [h4] at hin
    go_enter Try.func90, Try.ntmps90
    go_wp2_with (first
      | (go_at_call 124; refine (kidsOf_any 1 _).mono ?_; rintro e w1 ⟨rfl, rfl⟩)
      | (go_at_call 125; refine (hin _).mono ?_; rintro e w1 ⟨rfl, rfl⟩)
      | (go_at_call 89; refine (stop_any _ _ _).mono ?_; rintro e w4 ⟨rfl, rfl⟩)
      | fail)
    exact ⟨rfl, rfl, (Below.refl _ _).alloc (Nat.le_refl _) _⟩
  · have h4 : n.toList.isEmpty = false := by rw [ByteArray.toList_eq]; simpa [nameB, hk] using h3
    have hk1 : (k == 1) = false := by simpa using hk
    have hk2 : (k != 1) = true := by simpa using hk
    go_enter Try.func90, Try.ntmps90
    go_wp2_with (first
      | (go_at_call 124; refine (kidsOf_any k _).mono ?_; rintro e w1 ⟨rfl, rfl⟩)
      | (go_at_call 89; refine (stop_any _ _ _).mono ?_; rintro e w4 ⟨rfl, rfl⟩)
      | fail)
    exact ⟨rfl, rfl, (Below.refl _ _).alloc (Nat.le_refl _) _⟩

set_option maxHeartbeats 1000000 in
theorem node_fine (k at_ : Int) (n : ByteArray) (hn : n.size ≤ maxLen) (sl : Option Addr) (len cap : Nat) (w : World) (h : kindB k = true) (h2 : (len : Int) = kidsN k) (h3 : nameB k n = false) :
    Calls Try.prog 90 #[.agg #[.int .i64 k, .string n, .slice sl len cap], .int .i64 at_] w fun e w' => e = .returned (.tuple #[]) ∧ Below w.heap.size w w' := by
  have hin := isName_any n hn
  by_cases hk : k = 1
  · subst hk
    have h4 : isNm n.data.toList = true := by simpa [nameB] using h3
    rw [h4] at hin
    go_enter Try.func90, Try.ntmps90
    go_wp2_with (first
      | (go_at_call 124; refine (kidsOf_any 1 _).mono ?_; rintro e w1 ⟨rfl, rfl⟩)
      | (go_at_call 125; refine (hin _).mono ?_; rintro e w1 ⟨rfl, rfl⟩)
      | fail)
    go_end0
    exact ⟨rfl, (Below.refl _ _).alloc (Nat.le_refl _) _⟩
  · have h4 : n.toList = [] := by rw [ByteArray.toList_eq]; simpa [nameB, hk] using h3
    have hk1 : (k == 1) = false := by simpa using hk
    go_enter Try.func90, Try.ntmps90
    go_wp2_with (first
      | (go_at_call 124; refine (kidsOf_any k _).mono ?_; rintro e w1 ⟨rfl, rfl⟩)
      | fail)
    go_end0
    exact ⟨rfl, (Below.refl _ _).alloc (Nat.le_refl _) _⟩

theorem nodeF_some {k : Int} {n : ByteArray} {len : Nat} {c : Int} (h : nodeF k n len = some c) (at_ : Int) (hn : n.size ≤ maxLen) (sl : Option Addr) (cap : Nat) (w : World) :
    Calls Try.prog 90 #[.agg #[.int .i64 k, .string n, .slice sl len cap], .int .i64 at_] w fun e w' => e = .panicked (stopC c at_) ∧ Below w.heap.size w w' := by
  unfold nodeF at h
  split at h
  · rename_i h1; cases h; exact node_kind k at_ n sl len cap w h1
  · rename_i h1
    have h1 : kindB k = true := by simpa using h1
    split at h
    · rename_i h2; cases h; exact node_size k at_ n sl len cap w h1 h2
    · rename_i h2
      have h2 : (len : Int) = kidsN k := by simpa using h2
      split at h
      · rename_i h3; cases h; exact node_name k at_ n hn sl len cap w h1 h2 h3
      · cases h

theorem nodeF_none {k : Int} {n : ByteArray} {len : Nat} (h : nodeF k n len = none) (at_ : Int) (hn : n.size ≤ maxLen) (sl : Option Addr) (cap : Nat) (w : World) :
    Calls Try.prog 90 #[.agg #[.int .i64 k, .string n, .slice sl len cap], .int .i64 at_] w fun e w' => e = .returned (.tuple #[]) ∧ Below w.heap.size w w' := by
  unfold nodeF at h
  split at h
  · cases h
  · rename_i h1
    have h1 : kindB k = true := by simpa using h1
    split at h
    · cases h
    · rename_i h2
      have h2 : (len : Int) = kidsN k := by simpa using h2
      split at h
      · cases h
      · rename_i h3
        exact node_fine k at_ n hn sl len cap w h1 h2 (by simpa using h3)
end Go.Proofs.Ytknngeojhiejnab
/- Walks: Check's recursion. -/
namespace Go.Proofs.Ytknngeojhiejnab
open Go.RowKit

/-- The checker's block. -/
def RC (bc : Nat) (w : World) (s : Nat) : Prop := w.heap[bc]? = some (.cells #[.int .i64 s] 106 (0, 0))
theorem RC.lt {bc : Nat} {w : World} {s : Nat} (h : RC bc w s) : bc < w.heap.size := lt_of_block h
theorem RC.c0 {bc : Nat} {w : World} {s : Nat} (h : RC bc w s) : w.cell? ⟨bc, 0, none⟩ = some (.int .i64 s) := blk_cell h 0
theorem RC.fz {bc : Nat} {w : World} {s : Nat} (h : RC bc w s) : w.frozen? ⟨bc, 0, none⟩ = false := blk_fz h 0
theorem RC.alloc {bc : Nat} {w : World} {s : Nat} (h : RC bc w s) (o : Obj) : RC bc (w.alloc o) s := by
  unfold RC; rw [Below.heap_alloc _ _ _ h.lt]; exact h
theorem RC.set {bc : Nat} {w : World} {s : Nat} (h : RC bc w s) (s' : Nat) : RC bc (w.setCell ⟨bc, 0, none⟩ (.int .i64 s')) s' := by
  unfold RC at *; simp [World.setCell, Array.getElem?_modify, h]
theorem RC.below {bc : Nat} {w w' : World} {s : Nat} (h : RC bc w s) (hb : Below w.heap.size w w') : RC bc w' s := by
  unfold RC; rw [hb.block _ h.lt]; exact h

/-- What a look at a formula leaves. -/
def LPost (bc : Nat) : Chk → Ending → World → Prop
  | .ok s, e, w' => e = .returned (.tuple #[]) ∧ RC bc w' s
  | .bad c a, e, _ => e = .panicked (stopC c a)

def Looks (m : Nat) : Prop := ∀ (bc s : Nat) (f : Fm) (v : Value) (w : World), f.size < m → RC bc w s → s ≤ 200 → Rep w (· ≠ bc) f v →
  Calls Try.prog 76 #[.pointer (some ⟨bc, 0, none⟩), v] w fun e w' => Kept (· ≠ bc) w w' ∧ LPost bc (chk f s) e w'

theorem chks_drop {ks : List Fm} {i : Nat} {f : Fm} (h : ks[i]? = some f) (s : Nat) : chks (ks.drop i) s = match chk f s with | .bad c a => .bad c a | .ok s' => chks (ks.drop (i + 1)) s' := by
  have hi : i < ks.length := by
    rcases Nat.lt_or_ge i ks.length with h' | h'
    · exact h'
    · rw [List.getElem?_eq_none h'] at h; cases h
  rw [List.drop_eq_getElem_cons hi, chks]
  rw [List.getElem?_eq_getElem hi] at h
  rw [Option.some.inj h]
  cases chk f s <;> rfl

theorem sizes_get {ks : List Fm} {i : Nat} {f : Fm} (h : ks[i]? = some f) : f.size ≤ Fm.sizes ks := by
  induction ks generalizing i with
  | nil => simp at h
  | cons g gs ih =>
    cases i with
    | zero => simp at h; subst h; simp [Fm.sizes]
    | succ i => have := ih (i := i) (by simpa using h); simp [Fm.sizes]; omega

set_option maxHeartbeats 2000000 in
theorem look_step (m : Nat) (ih : Looks m) : Looks (m + 1) := by
  intro bc s f v w hm hc hs hrep
  obtain ⟨k, n, ks⟩ := f
  obtain ⟨sl, cap, rfl, hx1, hx2, hx3, hx4⟩ := Rep.def.1 hrep
  have f0 := hc.c0
  have f1 := hc.fz
  have z0 := hc.lt
  by_cases h200 : s = 200
  · subst h200
    go_enter Try.func76, Try.ntmps76
    go_wp2_with (first
      | (go_at_call 89; refine (stop_any _ _ _).mono ?_; rintro e w4 ⟨rfl, rfl⟩)
      | fail)
    refine ⟨rfl, (Kept.refl _ _).alloc _, ?_⟩
    simp only [chk, if_true, LPost]
    rfl
  · have hs1 : ((s : Int) == 200) = false := by simp; omega
    have hs2 : (s : Int) ≤ 200 := by omega
    rcases hnf : nodeF k n ks.length with _ | c
    · have hchk : chk (.mk k n ks) s = chks ks (s + 1) := by rw [chk, if_neg h200, hnf]
      rw [hchk]
      have HX : Hid (ks ≠ [] → ∃ b off, sl = some ⟨b, off, none⟩ ∧ b ≠ bc ∧ Reps w (· ≠ bc) b off ks) := hx4
      clear hx4
      have hlen : ((ks.length : Nat) : Int) ≤ 9223372036854775807 := by unfold maxLen at hx3; omega
      go_enter Try.func76, Try.ntmps76
      go_wp2_with (first
        | (go_at_call 90
           refine (nodeF_none hnf _ hx1 _ _ _).mono ?_
           rintro e w4 ⟨rfl, hb⟩
           have q4 : w4.heap[w.heap.size]? = some (.cells #[.int .i64 k, .string n, .slice sl ks.length cap] 37 (0, 0)) := by
             rw [hb.block _ (by simp [World.setCell])]
             have := blk_new (w.setCell ⟨bc, 0, none⟩ (.int .i64 (s + 1))) (.cells #[.int .i64 k, .string n, .slice sl ks.length cap] 37 (0, 0))
             simpa [World.setCell] using this
           have f2 := blk_cell q4 2
           simp at f2)
        | fail)
      have hc4 : RC bc w4 (s + 1) := ((hc.set (s + 1)).alloc _).below hb
      have hk4 : Kept (· ≠ bc) w w4 := (((Kept.refl _ _).setCell (by simp) _).alloc _).trans (kept_of_below hb (fun _ h _ => h))
      clear f0 f1 f2 hb
      go_loopg [27] ks.length (fun g v wr => ∃ i s', i ≤ ks.length ∧ g = ks.length - i ∧ v = .int .i64 (i : Nat) ∧ s' ≤ 200 ∧ RC bc wr s' ∧ Kept (· ≠ bc) w wr ∧ Hid (chks (ks.drop i) s' = chks ks (s + 1)))
      case atStart => exact ⟨0, s + 1, by omega, by omega, rfl, by omega, hc4, hk4, by show _ = _; simp⟩
      case round =>
        obtain ⟨i, s', hi, hg, rfl, hs', hcr, hkr, HC⟩ := hrel
        have HG : Hid (gk = ks.length - i) := hg
        clear hg hc4 hk4 q4
        by_cases hlt : i < ks.length
        · obtain ⟨b, off, hsl, hb, hrs⟩ := HX.out (fun e => by rw [e] at hlt; simp at hlt)
          subst hsl
          obtain ⟨⟨k2, n2, ks2⟩, hki⟩ : ∃ f, ks[i]? = some f := ⟨_, List.getElem?_eq_getElem hlt⟩
          obtain ⟨sl2, cap2, g0, g1, g2, hrep2⟩ := (hrs.kept hb hkr).at i k2 n2 ks2 hki
          have hlt2 : (i : Int) < (ks.length : Int) := by omega
          have hds := HC.out
          rw [chks_drop hki] at hds
          have hsz : (Fm.mk k2 n2 ks2).size < m := by have := sizes_get hki; rw [Fm.size] at hm; omega
          have HI : Hid (∀ w, RC bc w s' → Rep w (· ≠ bc) (.mk k2 n2 ks2) (.agg #[.int .i64 k2, .string n2, .slice sl2 ks2.length cap2]) → Calls Try.prog 76 #[.pointer (some ⟨bc, 0, none⟩), .agg #[.int .i64 k2, .string n2, .slice sl2 ks2.length cap2]] w fun e w' => Kept (· ≠ bc) w w' ∧ LPost bc (chk (.mk k2 n2 ks2) s') e w') := fun w h1 h2 => ih bc s' _ _ w hsz h1 hs' h2
          have HK : Hid (ks[i]? = some (.mk k2 n2 ks2)) := hki
          clear hki hrs hrep HX HC hnf hchk
          rcases hck : chk (.mk k2 n2 ks2) s' with s2 | ⟨c, a⟩
          · rw [hck] at hds HI
            simp only at hds
            have HD : Hid (chks (ks.drop (i + 1)) s2 = chks ks (s + 1)) := hds
            have hs2' := (chk_le _ _ _ hck hs').1
            clear hds hck
            go_wp2_with (first
              | (go_at_call 76
                 refine (HI.out _ (hcr.alloc _) (hrep2.kept ((Kept.refl _ _).alloc _))).mono ?_
                 rintro e w5 ⟨hk5, rfl, hc5⟩)
              | fail)
            go_roundg (ks.length - (i + 1))
            case measure => have := HG.out; omega
            case rel => exact ⟨i + 1, s2, by omega, rfl, by go_num, hs2', hc5, (hkr.alloc _).trans hk5, HD⟩
          · rw [hck] at hds HI
            simp only at hds
            have HD : Hid (Chk.bad c a = chks ks (s + 1)) := hds
            clear hds hck
            go_wp2_with (first
              | (go_at_call 76
                 refine (HI.out _ (hcr.alloc _) (hrep2.kept ((Kept.refl _ _).alloc _))).mono ?_
                 rintro e w5 ⟨hk5, he5⟩
                 obtain rfl : e = _ := he5)
              | fail)
            exact ⟨rfl, (hkr.alloc _).trans hk5, by rw [← HD.out]; rfl⟩
        · go_wp2_with fail
          go_end0
          refine ⟨hkr, ?_⟩
          rw [← HC.out, List.drop_of_length_le (by omega), chks]
          exact ⟨rfl, hcr⟩
    · go_enter Try.func76, Try.ntmps76
      go_wp2_with (first
        | (go_at_call 90
           refine (nodeF_some hnf _ hx1 _ _ _).mono ?_
           rintro e w4 ⟨rfl, hb⟩)
        | fail)
      refine ⟨rfl, (((Kept.refl _ _).setCell (by simp) _).alloc _).trans (kept_of_below hb (fun _ h _ => h)), ?_⟩
      rw [chk, if_neg h200, hnf]
      rfl
end Go.Proofs.Ytknngeojhiejnab
/- Walks: Check. -/
namespace Go.Proofs.Ytknngeojhiejnab
open Go.RowKit

theorem looks_all : ∀ m, Looks m
  | 0 => fun _ _ _ _ _ h => absurd h (Nat.not_lt_zero _)
  | m + 1 => look_step m (looks_all m)

theorem check1_in (cap : Array Value) (w : World) : (callFunc 75 cap).run Try.prog w = .ok (.enter 75 cap) w := by
  simp [go_sem]

set_option maxHeartbeats 1000000 in
theorem check1_any (bf : Nat) (k : Int) (n : ByteArray) (ks : List Fm) (sl : Option Addr) (cap : Nat) (w : World) (q0 : w.heap[bf]? = some (.cells #[.int .i64 k, .string n, .slice sl ks.length cap] 37 (0, 0)))
    (hrep : Rep w (fun _ => True) (.mk k n ks) (.agg #[.int .i64 k, .string n, .slice sl ks.length cap])) (x : Chk) (hx : chk (.mk k n ks) 0 = x) :
    Calls Try.prog 75 #[.pointer (some ⟨bf, 0, none⟩)] w fun e w' => Kept (fun _ => True) w w' ∧ match x with
      | .ok _ => e = .returned (.tuple #[])
      | .bad c a => e = .panicked (stopC c a) := by
  obtain ⟨g1, g2, g3, g4, g5, g6⟩ := blk3 q0
  have z0 := lt_of_block q0
  have hl := looks_all ((Fm.mk k n ks).size + 1) w.heap.size 0 (.mk k n ks) (.agg #[.int .i64 k, .string n, .slice sl ks.length cap]) (w.alloc (.cells #[.int .i64 0] 106 (0, 0))) (Nat.lt_succ_self _) (blk_new _ _) (by omega)
    (hrep.move fun b hb _ => ⟨Below.heap_alloc _ _ _ hb, by omega⟩)
  rw [hx] at hl
  have HL : Hid (Calls Try.prog 76 _ _ _) := hl
  clear hl hrep
  cases x with
  | ok s =>
    go_enter Try.func75, Try.ntmps75
    go_wp2_with (first
      | (go_at_call 76
         refine HL.out.mono ?_
         rintro e w1 ⟨hk1, rfl, -⟩)
      | fail)
    go_end0
    exact ⟨hk1.past, rfl⟩
  | bad c a =>
    go_enter Try.func75, Try.ntmps75
    go_wp2_with (first
      | (go_at_call 76
         refine HL.out.mono ?_
         rintro e w1 ⟨hk1, he⟩
         obtain rfl : e = _ := he)
      | fail)
    exact ⟨rfl, hk1.past, rfl⟩

theorem two_new {w : World} {o0 o1 o2 : Obj} : (((w.alloc o0).alloc o1).alloc o2).heap[w.heap.size]? = some o0 ∧ (((w.alloc o0).alloc o1).alloc o2).heap[w.heap.size + 1]? = some o1 := by
  have e1 : (w.alloc o0).heap.size = w.heap.size + 1 := by simp
  have e2 : ((w.alloc o0).alloc o1).heap.size = w.heap.size + 2 := by simp
  refine ⟨?_, ?_⟩
  · rw [Below.heap_alloc _ _ _ (by omega), Below.heap_alloc _ _ _ (by omega)]; exact blk_new _ _
  · rw [Below.heap_alloc _ _ _ (by omega), ← e1]; exact blk_new _ _

set_option maxHeartbeats 1000000 in
theorem check_any (f : Fm) (v : Value) (w : World) (hrep : Rep w (fun _ => True) f v) :
    Calls Try.prog 63 #[v] w fun e w' => e = .returned (.agg #[.int .i64 f.code.1, .int .i64 f.code.2]) ∧ Below w.heap.size w w' := by
  obtain ⟨k, n, ks⟩ := f
  obtain ⟨sl, cap, rfl, hx1, hx2, hx3, hx4⟩ := Rep.def.1 hrep
  clear hx4
  have hmf : ∀ (fn : Fn) (first cap : Array Value) (w : World), (Instr.makeFunc fn first cap).run Try.prog w = .ok (.func fn first cap) w := fun _ _ _ _ => rfl
  rcases hx : chk (.mk k n ks) 0 with s | ⟨c, a⟩
  · have hcode : (Fm.mk k n ks).code = (0, 0) := by simp only [Fm.code, hx]
    rw [hcode]
    go_enter Try.func63, Try.ntmps63
    go_wp2_with (first
      | (go_at_call 74
         refine (caught_ok 75 _ _ (fun w1 => w1.heap[w.heap.size + 1]? = some (.cells #[.int .i64 0, .int .i64 0] 25 (0, 0)) ∧ Below w.heap.size w w1) (check1_in _) ?_).mono ?_
         · refine (check1_any w.heap.size k n ks sl cap _ two_new.1 (hrep.move fun b hb _ => ⟨by rw [Below.heap_alloc _ _ _ (by simp; omega), Below.heap_alloc _ _ _ (by simp; omega), Below.heap_alloc _ _ _ hb], trivial⟩) _ hx).mono ?_
           rintro e w1 ⟨hk, rfl⟩
           exact ⟨rfl, (hk.block _ (by simp) trivial).trans (blk_new _ _), (hk.block _ (by simp) trivial).trans two_new.2, ((((Kept.refl _ w).alloc _).alloc _).alloc _ |>.trans hk).below (Nat.le_refl _) (fun _ _ => trivial)⟩
         rintro e w2 ⟨rfl, w1, ⟨q1, hb1⟩, hk2⟩
         have z1 := lt_of_block q1
         have q3 := (hk2.block _ z1 (by simp)).trans q1
         obtain ⟨k1, k2, k3, k4⟩ := blk2 q3)
      | fail)
    have hz := hb1.size
    have hz2 := hk2.size
    have b1 : Below w.heap.size w w2 := ((kept_of_below (ok := fun k => k < w.heap.size) hb1 (fun _ _ h => h)).trans (hk2.mono (fun k _ h => by simp; omega))).below (Nat.le_refl _) (fun _ h => h)
    have f2 := set2 q3 (.int .i64 0) (.int .i64 0)
    have b2 := (b1.setCell (p := ⟨w.heap.size + 1, 0, none⟩) (by simp) (.int .i64 0)).setCell (p := ⟨w.heap.size + 1, 1, none⟩) (by simp) (.int .i64 0)
    generalize World.setCell _ _ _ = F at f2 b2 ⊢
    clear k1 k2 k3 k4
    obtain ⟨k1, k2, -⟩ := blk2 f2
    exact bodyPost_ret (v := .agg #[.int .i64 0, .int .i64 0]) (by simp [results, Try.results63, go_sem, k1, k2]) rfl ⟨rfl, b2⟩
  · have hcode : (Fm.mk k n ks).code = (c, (a : Int)) := by simp only [Fm.code, hx]
    rw [hcode]
    go_enter Try.func63, Try.ntmps63
    go_wp2_with (first
      | (go_at_call 74
         refine (caught_bad 75 _ _ (fun w1 => w1.heap[w.heap.size + 1]? = some (.cells #[.int .i64 0, .int .i64 0] 25 (0, 0)) ∧ Below w.heap.size w w1) c a (check1_in _) ?_).mono ?_
         · refine (check1_any w.heap.size k n ks sl cap _ two_new.1 (hrep.move fun b hb _ => ⟨by rw [Below.heap_alloc _ _ _ (by simp; omega), Below.heap_alloc _ _ _ (by simp; omega), Below.heap_alloc _ _ _ hb], trivial⟩) _ hx).mono ?_
           rintro e w1 ⟨hk, rfl⟩
           exact ⟨rfl, (hk.block _ (by simp) trivial).trans (blk_new _ _), (hk.block _ (by simp) trivial).trans two_new.2, ((((Kept.refl _ w).alloc _).alloc _).alloc _ |>.trans hk).below (Nat.le_refl _) (fun _ _ => trivial)⟩
         rintro e w2 ⟨rfl, w1, ⟨q1, hb1⟩, hk2⟩
         have z1 := lt_of_block q1
         have q3 := (hk2.block _ z1 (by simp)).trans q1
         obtain ⟨k1, k2, k3, k4⟩ := blk2 q3)
      | fail)
    have hz := hb1.size
    have hz2 := hk2.size
    have b1 : Below w.heap.size w w2 := ((kept_of_below (ok := fun k => k < w.heap.size) hb1 (fun _ _ h => h)).trans (hk2.mono (fun k _ h => by simp; omega))).below (Nat.le_refl _) (fun _ h => h)
    have f2 := set2 q3 (.int .i64 c) (.int .i64 a)
    have b2 := (b1.setCell (p := ⟨w.heap.size + 1, 0, none⟩) (by simp) (.int .i64 c)).setCell (p := ⟨w.heap.size + 1, 1, none⟩) (by simp) (.int .i64 a)
    generalize World.setCell _ _ _ = F at f2 b2 ⊢
    clear k1 k2 k3 k4
    obtain ⟨k1, k2, -⟩ := blk2 f2
    exact bodyPost_ret (v := .agg #[.int .i64 c, .int .i64 a]) (by simp [results, Try.results63, go_sem, k1, k2]) rfl ⟨rfl, b2⟩
end Go.Proofs.Ytknngeojhiejnab
/- Walks: the builder inside a writer: the same two cells, in a block of the writer's type. -/
namespace Go.Proofs.Ytknngeojhiejnab
open Go.RowKit

/-- All that was there is as it was, but the writer's own block and blocks of bytes. -/
structure WK (b : Nat) (w w' : World) : Prop where
  size : w.heap.size ≤ w'.heap.size
  block : ∀ k o, w.heap[k]? = some o → k ≠ b → (∀ c fr, o ≠ .cells c 5 fr) → w'.heap[k]? = some o

theorem WK.refl (b : Nat) (w : World) : WK b w w := ⟨Nat.le_refl _, fun _ _ h _ _ => h⟩
theorem WK.trans {b : Nat} {w w1 w2 : World} (h : WK b w w1) (k : WK b w1 w2) : WK b w w2 :=
  ⟨Nat.le_trans h.size k.size, fun i o hi hb ho => k.block i o (h.block i o hi hb ho) hb ho⟩
theorem WK.alloc {b : Nat} {w w1 : World} (h : WK b w w1) (o : Obj) : WK b w (w1.alloc o) :=
  h.trans ⟨by simp, fun k _ hk _ _ => (Below.heap_alloc _ _ _ (lt_of_block hk)).trans hk⟩
theorem WK.set {b : Nat} {w w1 : World} (h : WK b w w1) (o : Nat) (v : Value) : WK b w (w1.setCell ⟨b, o, none⟩ v) :=
  h.trans ⟨by simp [World.setCell], fun _ _ hk hb _ => (Below.heap_setCell _ _ _ _ hb).trans hk⟩
theorem WK.drewN {b : Nat} {w w1 : World} (h : WK b w w1) (n : Nat) : WK b w (w1.drewN n) := ⟨h.size, h.block⟩
theorem WK.drew {b : Nat} {w w1 : World} (h : WK b w w1) : WK b w w1.drew := ⟨h.size, h.block⟩

end Go.Proofs.Ytknngeojhiejnab
/- Walks: the writer. -/
namespace Go.Proofs.Ytknngeojhiejnab
open Go.RowKit

theorem Rep.low {w w' : World} {B : Nat} {f : Fm} {v : Value} (h : Rep w (· < B) f v) (hb : Below B w w') : Rep w' (· < B) f v :=
  h.move fun b _ hb2 => ⟨hb.block b hb2, hb2⟩

theorem Reps.low {w w' : World} {B b off : Nat} {fs : List Fm} (h : Reps w (· < B) b off fs) (hb : b < B) (hk : Below B w w') : Reps w' (· < B) b off fs :=
  h.kept hb (kept_of_below hk (fun _ _ h => h))

end Go.Proofs.Ytknngeojhiejnab
/- Walks: the writer, three. -/
namespace Go.Proofs.Ytknngeojhiejnab
open Go.RowKit

theorem slice_shape {w : World} {ok : Nat → Prop} {k : Int} {n : ByteArray} {ks : List Fm} {v : Value} (h : Rep w ok (.mk k n ks) v) : ∃ sl cap, v = .agg #[.int .i64 k, .string n, .slice sl ks.length cap] := by
  obtain ⟨sl, cap, hv, _⟩ := Rep.def.1 h
  exact ⟨sl, cap, hv⟩

end Go.Proofs.Ytknngeojhiejnab
/- Walks: Print. -/
namespace Go.Proofs.Ytknngeojhiejnab
open Go.RowKit

theorem chk_size {f : Fm} {s : Nat} (h : chk f 0 = .ok s) : f.size ≤ 200 := by have := chk_le f 0 s h (by omega); omega

end Go.Proofs.Ytknngeojhiejnab
/- Walks: what the laws' own yardstick does with formulas. -/
namespace Go.Proofs.Ytknngeojhiejnab
open Go.RowKit

theorem Rep.up {w w' : World} {f : Fm} {v : Value} (h : Rep w (fun _ => True) f v) (hb : Below w.heap.size w w') : Rep w' (fun _ => True) f v :=
  h.move fun b hb1 _ => ⟨hb.block b hb1, trivial⟩
theorem Reps.up {w w' : World} {b off : Nat} {fs : List Fm} (h : Reps w (fun _ => True) b off fs) (hb : Below w.heap.size w w') : Reps w' (fun _ => True) b off fs :=
  h.kept trivial (kept_of_below hb (fun _ h _ => h))

end Go.Proofs.Ytknngeojhiejnab
/- Walks: what the laws lean on. -/
namespace Go.Proofs.Ytknngeojhiejnab
open Go.RowKit

/-- The document's example. -/
def f0 : Fm := .mk 7 e0 [.mk 7 e0 [nmF [112], nmF [113]], .mk 5 e0 [nmF [112], .mk 4 e0 [.mk 2 e0 []]]]
end Go.Proofs.Ytknngeojhiejnab
/- Walks: FormulaBack. -/
namespace Go.Proofs.Ytknngeojhiejnab
open Go.RowKit

theorem below_keep {w w' : World} {k : Nat} {o : Obj} (hb : Below w.heap.size w w') (h : w.heap[k]? = some o) : w'.heap[k]? = some o := (hb.block k (lt_of_block h)).trans h
theorem alloc_keep {w : World} {k : Nat} {o : Obj} (h : w.heap[k]? = some o) (o' : Obj) : (w.alloc o').heap[k]? = some o := (Below.heap_alloc _ _ _ (lt_of_block h)).trans h
theorem below_join {W w w' : World} (h : Below W.heap.size W w) (hb : Below w.heap.size w w') : Below W.heap.size W w' := h.trans (hb.mono h.size)
theorem below_more {W w : World} (h : Below W.heap.size W w) (o : Obj) : Below W.heap.size W (w.alloc o) := h.alloc h.size o

theorem Rep.all {w : World} {ok : Nat → Prop} {f : Fm} {v : Value} (h : Rep w ok f v) : Rep w (fun _ => True) f v := h.move fun _ _ _ => ⟨rfl, trivial⟩
theorem Rep.more {w : World} {f : Fm} {v : Value} (h : Rep w (fun _ => True) f v) (o : Obj) : Rep (w.alloc o) (fun _ => True) f v := h.up ((Below.refl _ _).alloc (Nat.le_refl _) _)

end Go.Proofs.Ytknngeojhiejnab
/- A formula that came in, as data. -/
namespace Go.Proofs.Ytknngeojhiejnab
open Go.RowKit

theorem cells24 : Try.prog.cellsOf 37 = 3 := by kernel_rfl
theorem cells3 : Try.prog.cellsOf 3 = 1 := by kernel_rfl
theorem cells9 : Try.prog.cellsOf 9 = 1 := by kernel_rfl
theorem cells22 : Try.prog.cellsOf 35 = 1 := by kernel_rfl

theorem add_none (b off n : Nat) : (⟨b, off, none⟩ : Addr).add n = ⟨b, off + n, none⟩ := by
  by_cases h : n = 0 <;> simp [Addr.add, h]

section
variable {H : Type} {enc : TypeId × Value → H} {W : World} {spare : Nat → Bool} {held : Bool}

/-- Cells that read as formulas, one behind the other. -/
theorem reps_of {b off len : Nat} (rd : ∀ i, i < len → ∃ c0 c1 c2 f, W.cell? ⟨b, off + i * 3, none⟩ = some c0 ∧ W.cell? ⟨b, off + i * 3 + 1, none⟩ = some c1 ∧ W.cell? ⟨b, off + i * 3 + 2, none⟩ = some c2 ∧ Rep W (fun _ => True) f (.agg #[c0, c1, c2])) :
    ∃ fs : List Fm, fs.length = len ∧ Reps W (fun _ => True) b off fs := by
  induction len generalizing off with
  | zero => exact ⟨[], rfl, Reps.nil⟩
  | succ len ih =>
    obtain ⟨c0, c1, c2, f, h0, h1, h2, hr⟩ := rd 0 (by omega)
    obtain ⟨fs, hl, hrs⟩ := ih (off := off + 3) (fun i hi => by
      obtain ⟨d0, d1, d2, g, k0, k1, k2, kr⟩ := rd (i + 1) (by omega)
      have e : off + (i + 1) * 3 = off + 3 + i * 3 := by omega
      rw [e] at k0 k1 k2
      exact ⟨d0, d1, d2, g, k0, k1, k2, kr⟩)
    exact ⟨f :: fs, by simp [hl], Reps.cons.2 ⟨⟨c0, c1, c2, by simpa using h0, by simpa using h1, by simpa using h2, hr⟩, hrs⟩⟩

set_option maxRecDepth 100000 in
theorem rep_of_trod : ∀ (fuel : Nat) (cs : List Value) (x : DataW H × List MemPlace), DataW.trod enc Try.prog W 0 spare held fuel 37 cs = some x →
    ∃ c0 c1 c2 f, cs = [c0, c1, c2] ∧ Rep W (fun _ => True) f (.agg #[c0, c1, c2]) := by
  intro fuel
  induction fuel using Nat.strongRecOn with
  | _ fuel ih =>
    intro cs x h
    obtain ⟨xs, n, hfu, -, hl, hlen, hf⟩ := DataW.trod_struct Try.underlying37 h
    rw [cells24] at hl
    match cs, hl with
    | [c0, c1, c2], _ =>
      have h0 := hf 0 _ rfl
      have h1 := hf 1 _ rfl
      have h2 := hf 2 _ rfl
      simp at hlen
      match xs, hlen with
      | [y0, y1, y2], _ =>
        simp [cells3, cells9, cells22] at h0 h1 h2
        obtain ⟨k, e0, -, -⟩ := DataW.trod_int Try.underlying3 h0
        obtain ⟨s, e1, -, hs⟩ := DataW.trod_string Try.underlying9 h1
        simp at e0 e1
        subst e0 e1
        rcases DataW.trod_slice Try.underlying35 h2 with ⟨e2, -⟩ | ⟨a, len, cap, elems, rest, m, hm, e2, -, -, hlc, hcm, hel, hall, -⟩
        · simp at e2
          subst e2
          exact ⟨_, _, _, .mk k s [], rfl, Rep.leaf hs⟩
        · simp at e2
          subst e2
          obtain ⟨b, off, spot⟩ := a
          by_cases hz : len = 0
          · subst hz
            exact ⟨_, _, _, .mk k s [], rfl, Rep.def.2 ⟨_, cap, rfl, hs, Nat.zero_le _, hcm, fun h => absurd rfl h⟩⟩
          · have hsp : spot = none := by
              have hh := hall 0 (by omega)
              rw [cells24, List.getElem?_eq_getElem (by omega)] at hh
              obtain ⟨cs', hcs, htr⟩ := Option.bind_eq_some_iff.1 hh
              obtain ⟨-, hl3, hcell⟩ := World.cells?_some hcs
              obtain ⟨d0, d1, d2, f, rfl, -⟩ := ih m (by omega) cs' _ htr
              have g0 := hcell 0 (by omega)
              simp [Addr.add] at g0
              simpa using World.cell?_spot g0
            subst hsp
            obtain ⟨fs, hfl, hrs⟩ := reps_of (W := W) (b := b) (off := off) (len := len) (fun i hi => by
              have hh := hall i hi
              rw [cells24, List.getElem?_eq_getElem (by omega), add_none] at hh
              obtain ⟨cs', hcs, htr⟩ := Option.bind_eq_some_iff.1 hh
              obtain ⟨-, hl3, hcell⟩ := World.cells?_some hcs
              obtain ⟨d0, d1, d2, f, rfl, hr⟩ := ih m (by omega) cs' _ htr
              have g0 := hcell 0 (by omega)
              have g1 := hcell 1 (by omega)
              have g2 := hcell 2 (by omega)
              rw [add_none] at g0 g1 g2
              exact ⟨d0, d1, d2, f, g0, g1, g2, hr⟩)
            subst hfl
            exact ⟨_, _, _, .mk k s fs, rfl, Rep.def.2 ⟨_, cap, rfl, hs, hlc, hcm, fun _ => ⟨b, off, rfl, trivial, hrs⟩⟩⟩
end
end Go.Proofs.Ytknngeojhiejnab
/- The plain mathematics of layer 1, seven: the yardstick's tokens. -/
namespace Go.Proofs.Ytknngeojhiejnab

/-- The signs, in the yardstick's order. -/
def sg (k : Nat) : List UInt8 := [[45, 62], [91, 93], [60, 62], [126], [38], [124], [40], [41], [49], [48]].getD k []

/-- The first sign from number k on with which r begins. -/
def signAt : Nat → Nat → List UInt8 → Option Nat
  | 0, _, _ => none
  | m + 1, k, r => if (sg k).isPrefixOf r then some k else signAt m (k + 1) r

/-- A token: its text, and what is left from it on and behind it. -/
def tok (l : List UInt8) : List UInt8 × List UInt8 × List UInt8 :=
  let r := skipB l
  if r = [] then ([], r, r) else
  match signAt 10 0 r with
  | some k => (sg k, r, r.drop (sg k).length)
  | none => if isNm (letters r) then (letters r, r, r.drop (letters r).length) else ([63], r, r.drop 1)

def allLow (l : List UInt8) : Bool := l.all lower
theorem letters_of_all : ∀ (l : List UInt8), allLow l = true → letters l = l
  | [], _ => rfl
  | c :: l, h => by
    simp only [allLow, List.all_cons, Bool.and_eq_true] at h
    rw [letters, if_pos h.1, letters_of_all l h.2]
theorem all_of_letters : ∀ (l : List UInt8), (letters l).length = l.length → allLow l = true
  | [], _ => rfl
  | c :: l, h => by
    rw [letters] at h
    split at h
    · rename_i hc
      simp only [allLow, List.all_cons, Bool.and_eq_true]
      exact ⟨hc, all_of_letters l (by simpa using h)⟩
    · simp at h
theorem isNm_all (l : List UInt8) : isNm l = (allLow l && decide (0 < l.length) && decide (l.length < 9)) := by
  unfold isNm
  rcases h : allLow l with _ | _
  · have : ¬ (letters l).length = l.length := fun e => by rw [all_of_letters l e] at h; cases h
    simp [this]
  · rw [letters_of_all l h]
    have e1 : (l ≠ []) ↔ 0 < l.length := List.length_pos_iff.symm
    have e2 : (l.length ≤ 8) ↔ l.length < 9 := by omega
    rw [Bool.eq_iff_iff]
    simp only [Bool.and_eq_true, decide_eq_true_eq, e1, e2, Bool.true_and, and_true]
end Go.Proofs.Ytknngeojhiejnab
/- Walks: the yardstick's names and tokens. -/
namespace Go.Proofs.Ytknngeojhiejnab
open Go.RowKit

set_option maxHeartbeats 1000000 in
theorem refName_any (s : ByteArray) (hs : s.size ≤ maxLen) (w : World) :
    Calls Try.prog 17 #[.string s] w fun e w' => e = .returned (.bool (isNm s.data.toList)) ∧ w' = w := by
  have hsz : s.data.toList.length = s.size := Array.length_toList
  unfold maxLen at hs
  have HN : Hid (isNm s.data.toList = (allLow s.data.toList && decide (0 < s.data.toList.length) && decide (s.data.toList.length < 9))) := isNm_all _
  have HZ : Hid (s.data.toList.length = s.size) := hsz
  clear hsz
  go_enter Try.func17, Try.ntmps17
  go_wp2
  go_loop [3] (fun v => ∃ k l, At s k l ∧ v = .int .i64 (k : Nat) ∧ allLow s.data.toList = allLow l) (fun v => s.size - (intOf v).toNat)
  case atStart => exact ⟨0, s.data.toList, ⟨Nat.zero_le _, by simp⟩, rfl, rfl⟩
  case round =>
    obtain ⟨k, l, ha, rfl, hl⟩ := hrel
    have hlen := ha.len
    have HL : Hid (At s k l ∧ allLow s.data.toList = allLow l) := ⟨ha, hl⟩
    clear ha hl
    cases l with
    | nil =>
      simp at hlen
      have hd : decide ((k : Int) < (s.size : Int)) = false := by simp; omega
      go_wp2
      all_goals
        go_ret
        refine ⟨ret_bool ?_, rfl⟩
        rw [HN.out, HL.out.2, HZ.out]
        rw [Bool.eq_iff_iff]
        simp only [allLow, List.all_nil, Bool.true_and, Bool.and_eq_true, decide_eq_true_eq, Bool.false_eq_true, false_iff]
        omega
    | cons c l =>
      simp at hlen
      have hlt' : k < s.size := by omega
      have hlt : (k : Int) < (s.size : Int) := by omega
      have hhd : s[k] = c := HL.out.1.head hlt'
      by_cases hc : lower c
      · have hx : (97 : Int) ≤ (s[k].toNat : Int) := by rw [hhd]; simp [lower] at hc; omega
        have hy : (s[k].toNat : Int) ≤ 122 := by rw [hhd]; simp [lower] at hc; omega
        have HM : Hid (At s (k + 1) l ∧ allLow s.data.toList = allLow l) := ⟨HL.out.1.cons, by rw [HL.out.2]; simp only [allLow, List.all_cons, hc, Bool.true_and]⟩
        clear hhd hc
        go_wp2
        go_round
        case rel => exact ⟨k + 1, l, HM.out.1, by go_num, HM.out.2⟩
        case measure => simp [intOf]; omega
      · have hx : ¬ ((97 : Int) ≤ (s[k].toNat : Int) ∧ (s[k].toNat : Int) ≤ 122) := by rw [hhd]; simp [lower] at hc; omega
        have HM : Hid (allLow s.data.toList = false) := by
          show _ = _
          rw [HL.out.2]
          simp only [allLow, List.all_cons, Bool.eq_false_iff.2 hc, Bool.false_and]
        clear hhd hc
        go_wp2
        all_goals
          go_ret
          refine ⟨ret_bool ?_, rfl⟩
          rw [HN.out, HM.out]
          rfl

/-- What a token is answered as. -/
def TPost (t : ByteArray) (l : List UInt8) (w : World) (e : Ending) (w' : World) : Prop :=
  ∃ a1 a2, e = .returned (.tuple #[.string ⟨(tok l).1.toArray⟩, .int .i64 (a1 : Nat), .int .i64 (a2 : Nat)]) ∧ At t a1 (tok l).2.1 ∧ At t a2 (tok l).2.2 ∧ Below w.heap.size w w'

theorem TPost.of {t : ByteArray} {l : List UInt8} {w w' : World} {s : ByteArray} {x y : Int} (a1 a2 : Nat) {tk r q : List UInt8} (ht : tok l = (tk, r, q)) (hs : s = ⟨tk.toArray⟩) (hx : x = a1) (hy : y = a2) (h1 : At t a1 r) (h2 : At t a2 q) (hb : Below w.heap.size w w') :
    TPost t l w (.returned (.tuple #[.string s, .int .i64 x, .int .i64 y])) w' := by
  subst hs hx hy
  exact ⟨a1, a2, by rw [ht], by rw [ht]; exact h1, by rw [ht]; exact h2, hb⟩

end Go.Proofs.Ytknngeojhiejnab
/- The plain mathematics of layer 1, nine: a formula's nodes, at most so many. -/
namespace Go.Proofs.Ytknngeojhiejnab

mutual
def walkL : Fm → Nat → List Fm
  | .mk k n ks, most => .mk k n ks :: walkK ks most 1
def walkK : List Fm → Nat → Nat → List Fm
  | [], _, _ => []
  | f :: fs, most, c => if c ≤ most then walkL f (most - c) ++ walkK fs most (c + (walkL f (most - c)).length) else []
end

mutual
theorem walkL_le : ∀ (f : Fm) (most : Nat), (walkL f most).length ≤ most + 1
  | .mk k n ks, most => by
    rw [walkL, List.length_cons]
    have := walkK_le ks most 1 (by omega)
    omega
theorem walkK_le : ∀ (fs : List Fm) (most c : Nat), c ≤ most + 1 → c + (walkK fs most c).length ≤ most + 1
  | [], most, c, h => by rw [walkK]; simpa using h
  | f :: fs, most, c, h => by
    rw [walkK]
    split
    · rename_i hc
      have a := walkL_le f (most - c)
      have b := walkK_le fs most (c + (walkL f (most - c)).length) (by omega)
      rw [List.length_append]; omega
    · simpa using h
end

/-! All nodes, each ahead of its kids. -/
mutual
def allN : Fm → List Fm
  | .mk k n ks => .mk k n ks :: allNs ks
def allNs : List Fm → List Fm
  | [] => []
  | f :: fs => allN f ++ allNs fs
end
mutual
theorem allN_len : ∀ f : Fm, (allN f).length = f.size
  | .mk k n ks => by rw [allN, List.length_cons, allNs_len ks, Fm.size]
theorem allNs_len : ∀ fs : List Fm, (allNs fs).length = Fm.sizes fs
  | [] => by rw [allNs, Fm.sizes]; rfl
  | f :: fs => by rw [allNs, List.length_append, allN_len f, allNs_len fs, Fm.sizes]
end

theorem take_app {α : Type} (a b : List α) (n : Nat) : (a ++ b).take n = a.take n ++ b.take (n - a.length) := List.take_append
mutual
theorem walkL_take : ∀ (f : Fm) (most : Nat), walkL f most = (allN f).take (most + 1)
  | .mk k n ks, most => by
    rw [walkL, allN, List.take_succ_cons, walkK_take ks most 1 (by omega)]
    rfl
theorem walkK_take : ∀ (fs : List Fm) (most c : Nat), c ≤ most + 1 → walkK fs most c = (allNs fs).take (most + 1 - c)
  | [], most, c, _ => by rw [walkK, allNs]; simp
  | f :: fs, most, c, h => by
    rw [walkK, allNs]
    split
    · rename_i hc
      have e : most - c + 1 = most + 1 - c := by omega
      have hl := walkL_le f (most - c)
      have hL := walkL_take f (most - c)
      rw [e] at hL
      rw [walkK_take fs most (c + (walkL f (most - c)).length) (by omega), take_app, ← hL]
      congr 1
      by_cases hlt : (allN f).length ≤ most + 1 - c
      · have : (walkL f (most - c)).length = (allN f).length := by rw [hL, List.length_take]; omega
        rw [this]; congr 1; omega
      · have : (walkL f (most - c)).length = most + 1 - c := by rw [hL, List.length_take]; omega
        rw [this, show most + 1 - (c + (most + 1 - c)) = 0 by omega, show most + 1 - c - (allN f).length = 0 by omega]
    · have : most + 1 - c = 0 := by omega
      rw [this]; simp
end

end Go.Proofs.Ytknngeojhiejnab
