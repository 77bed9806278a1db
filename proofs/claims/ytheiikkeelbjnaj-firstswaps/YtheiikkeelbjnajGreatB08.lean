/- Texts of one proof, one behind the other: FR1, FR2. -/
import Derived.Test.YtheiikkeelbjnajGreatB04
/- Walks: a text that is read (package scan): blanks, signs. -/
namespace Go.Proofs.YtheiikkeelbjnajGreat
open Go.RowKit

/-- A text that is read, at place a, in block br (whose first two cells they are). -/
def TS (br : Nat) (w : World) (t : ByteArray) (a : Nat) : Prop := ∃ cs T, w.heap[br]? = some (.cells cs T (0, 0)) ∧ cs[0]? = some (.string t) ∧ cs[1]? = some (.int .i64 (a : Nat))
theorem TS.c0 {br : Nat} {w : World} {t : ByteArray} {a : Nat} (h : TS br w t a) : w.cell? ⟨br, 0, none⟩ = some (.string t) := by
  obtain ⟨cs, T, h1, h2, h3⟩ := h; rw [blk_cell h1]; exact h2
theorem TS.c1 {br : Nat} {w : World} {t : ByteArray} {a : Nat} (h : TS br w t a) : w.cell? ⟨br, 1, none⟩ = some (.int .i64 (a : Nat)) := by
  obtain ⟨cs, T, h1, h2, h3⟩ := h; rw [blk_cell h1]; exact h3
theorem TS.fz {br : Nat} {w : World} {t : ByteArray} {a : Nat} (h : TS br w t a) : w.frozen? ⟨br, 1, none⟩ = false := by
  obtain ⟨cs, T, h1, h2, h3⟩ := h; exact blk_fz h1 1
theorem TS.lt {br : Nat} {w : World} {t : ByteArray} {a : Nat} (h : TS br w t a) : br < w.heap.size := by
  obtain ⟨cs, T, h1, h2, h3⟩ := h; exact lt_of_block h1
theorem TS.set1 {br : Nat} {w : World} {t : ByteArray} {a : Nat} (h : TS br w t a) (a' : Nat) : TS br (w.setCell ⟨br, 1, none⟩ (.int .i64 (a' : Nat))) t a' := by
  obtain ⟨cs, T, h1, h2, h3⟩ := h; have hl : 1 < cs.size := (Array.getElem?_eq_some_iff.1 h3).1; refine ⟨cs.setIfInBounds 1 (.int .i64 (a' : Nat)), T, ?_, ?_, ?_⟩
  · simp [World.setCell, Array.getElem?_modify, h1]
  · rw [Array.getElem?_setIfInBounds_ne (by decide)]; exact h2
  · rw [Array.getElem?_setIfInBounds_self]; simp [hl]
theorem TS.drewN {br : Nat} {w : World} {t : ByteArray} {a : Nat} (h : TS br w t a) (k : Nat) : TS br (w.drewN k) t a := h
theorem TS.same {br : Nat} {w w' : World} {t : ByteArray} {a : Nat} (h : TS br w t a) (e : w'.heap[br]? = w.heap[br]?) : TS br w' t a := by
  obtain ⟨cs, T, h1, h2, h3⟩ := h; exact ⟨cs, T, e.trans h1, h2, h3⟩
theorem TS.alloc {br : Nat} {w : World} {t : ByteArray} {a : Nat} (h : TS br w t a) (o : Obj) : TS br (w.alloc o) t a := h.same (Below.heap_alloc _ _ _ h.lt)
set_option maxHeartbeats 1000000 in
theorem skipT_any (br : Nat) (t : ByteArray) (ht : t.size ≤ 20000) (w : World) (a : Nat) (l : List UInt8) (ha : At t a l) (h : TS br w t a) :
    Calls Tryz.prog 178 #[.pointer (some ⟨br, 0, none⟩)] w fun e w' => e = .returned (.tuple #[]) ∧ (∃ a', At t a' (skipB l) ∧ TS br w' t a') ∧ Kept (· ≠ br) w w' := by
  go_enter Tryz.func178, Tryz.ntmps178
  go_wp2
  go_loopg [] l.length (fun k wr => ∃ a' l', At t a' l' ∧ l'.length = k ∧ skipB l' = skipB l ∧ TS br wr t a' ∧ Kept (· ≠ br) w wr)
  case atStart => exact ⟨a, l, ha, rfl, rfl, h, Kept.refl _ _⟩
  case round =>
    obtain ⟨a', l', ha', hl', hsk, hrs, hkept⟩ := hrel; have hlen := ha'.len; have f0 := hrs.c0; have f1 := hrs.c1; have f2 := hrs.fz; have HS : Hid (skipB l' = skipB l) := hsk; clear hsk; have HA : Hid (At t a' l') := ha'; clear ha'; have HR : Hid (TS br wr t a') := hrs; clear hrs; have HL : Hid (l'.length = gk) := hl'; clear hl'
    cases l' with
    | nil =>
      simp at hlen; (have hd : decide ((a' : Int) < (t.size : Int)) = false := by simp; omega); go_wp2
      go_quiet (fail)
      go_wp2
      go_end0
      exact ⟨rfl, ⟨a', by rw [← HS.out]; exact HA.out, HR.out⟩, hkept.drewN _⟩
    | cons c l' =>
      simp at hlen; (have hlt : (a' : Int) < (t.size : Int) := by omega); (have hlt' : a' < t.size := by omega); have hhd : t[a'] = c := HA.out.head hlt'; (have hl1 : (t.size : Int) ≤ 20000 := by omega); by_cases h1 : blank c
      · have hx : ((t[a'].toNat : Int) = 32) ∨ ((t[a'].toNat : Int) = 10) := by
          rw [hhd]; simp only [blank, Bool.or_eq_true, beq_iff_eq] at h1
          rcases h1 with h | h <;> subst h
          · left; rfl
          · right; rfl
        (have HN : Hid (At t (a' + 1) l' ∧ skipB l' = skipB l) := ⟨HA.out.cons, by rw [← HS.out, skipB, if_pos h1]⟩); clear hhd h1
        rcases hx with hx | hx
        all_goals
          go_wp2
          go_quiet (fail)
          go_wp2
          go_roundg l'.length
          case measure => have := HL.out; simp at this; omega
          case rel => exact ⟨a' + 1, l', HN.out.1, rfl, HN.out.2, (HR.out.set1 (a' + 1)).drewN _, (hkept.drewN _).setCell (by simp) _⟩
      · have hx : ¬ ((t[a'].toNat : Int) = 32) := by
          (rw [hhd]; intro h; apply h1; have : c = 32 := UInt8.toNat_inj.1 (by simpa using (Int.ofNat.inj h)); simp [blank, this])
        have hy : ¬ ((t[a'].toNat : Int) = 10) := by
          (rw [hhd]; intro h; apply h1; have : c = 10 := UInt8.toNat_inj.1 (by simpa using (Int.ofNat.inj h)); simp [blank, this])
        (have hx' : ((t[a'].toNat : Int) == 32) = false := by simpa using hx); (have hy' : ((t[a'].toNat : Int) == 10) = false := by simpa using hy); (have HN : Hid (At t a' (c :: l') ∧ c :: l' = skipB l) := ⟨HA.out, by rw [← HS.out, skipB, if_neg h1]⟩); clear hhd h1; go_wp2
        go_quiet (fail)
        go_wp2
        go_end0
        (exact ⟨rfl, ⟨a', by rw [← HN.out.2]; exact HN.out.1, HR.out⟩, hkept.drewN _⟩)
set_option maxHeartbeats 1000000 in
theorem takeT_yes (br : Nat) (t s : ByteArray) (ht : t.size ≤ 20000) (hs : s.size ≤ 10) (w : World) (a : Nat) (l r : List UInt8) (ha : At t a l) (h : TS br w t a) (htk : takeS s.data.toList l = some r) :
    Calls Tryz.prog 176 #[.pointer (some ⟨br, 0, none⟩), .string s] w fun e w' => e = .returned (.bool true) ∧ (∃ a', At t a' r ∧ TS br w' t a') ∧ Kept (· ≠ br) w w' := by
  have HT : Hid (Lib.hasPrefix (skipB l) s.data.toList = true ∧ (skipB l).drop s.size = r ∧ s.size ≤ (skipB l).length) := by
    unfold takeS at htk
    split at htk
    · rename_i hp
      have := List.IsPrefix.length_le (List.isPrefixOf_iff_prefix.1 hp); rw [show s.data.toList.length = s.size from Array.length_toList] at htk this; exact ⟨hp, Option.some.inj htk, this⟩
    · cases htk
  clear htk
  go_enter Tryz.func176, Tryz.ntmps176
  go_wp2_with (go_at_call 178; refine (skipT_any br t ht _ a l ha h).mono ?_; rintro e w1 ⟨rfl, ⟨a1, ha1, hr1⟩, hk1⟩); have f0 := hr1.c0; have f1 := hr1.c1; have f2 := hr1.fz; have hlen := ha1.len; (have hle : (a1 : Int) ≤ (t.size : Int) := by omega); (have hl1 : (t.size : Int) ≤ 20000 := by omega); (have hl2 : (s.size : Int) ≤ 10 := by omega); have HA : Hid (At t a1 (skipB l)) := ha1; clear ha1 ha; (have hp := pre_any (s := t.extract a1 t.size) (p := s) (b := true) (by rw [HA.out.slice]; exact HT.out.1))
  go_quiet ((go_at_call 199; exact Calls.quiet_of_same (hp _)))
  clear hp; go_wp2; go_ret; refine ⟨rfl, ⟨a1 + s.size, ?_, ?_⟩, ?_⟩
  · rw [← HT.out.2.1]; exact HA.out.drop _ HT.out.2.2
  · exact (hr1.set1 (a1 + s.size)).drewN _
  · exact (hk1.drewN _).setCell (by simp) _

set_option maxHeartbeats 1000000 in
theorem takeT_no (br : Nat) (t s : ByteArray) (ht : t.size ≤ 20000) (w : World) (a : Nat) (l : List UInt8) (ha : At t a l) (h : TS br w t a) (htk : takeS s.data.toList l = none) :
    Calls Tryz.prog 176 #[.pointer (some ⟨br, 0, none⟩), .string s] w fun e w' => e = .returned (.bool false) ∧ (∃ a', At t a' (skipB l) ∧ TS br w' t a') ∧ Kept (· ≠ br) w w' := by
  have HT : Hid (Lib.hasPrefix (skipB l) s.data.toList = false) := by
    unfold takeS at htk
    split at htk
    · cases htk
    · rename_i hp; exact Bool.eq_false_iff.2 hp
  clear htk
  go_enter Tryz.func176, Tryz.ntmps176
  go_wp2_with (go_at_call 178; refine (skipT_any br t ht _ a l ha h).mono ?_; rintro e w1 ⟨rfl, ⟨a1, ha1, hr1⟩, hk1⟩); have f0 := hr1.c0; have f1 := hr1.c1; have hlen := ha1.len; (have hle : (a1 : Int) ≤ (t.size : Int) := by omega); (have hl1 : (t.size : Int) ≤ 20000 := by omega); have HA : Hid (At t a1 (skipB l)) := ha1; clear ha1 ha; (have hp := pre_any (s := t.extract a1 t.size) (p := s) (b := false) (by rw [HA.out.slice]; exact HT.out))
  go_quiet ((go_at_call 199; exact Calls.quiet_of_same (hp _)))
  clear hp; go_wp2; go_ret; exact ⟨rfl, ⟨a1, HA.out, hr1.drewN _⟩, hk1.drewN _⟩
end Go.Proofs.YtheiikkeelbjnajGreat
/- Walks: a text that is read (package scan): Wrong, Need, End. -/
namespace Go.Proofs.YtheiikkeelbjnajGreat
open Go.RowKit

/-- A place is told by what is behind it. -/
theorem At.posS {t : ByteArray} {a : Nat} {l : List UInt8} (h : At t a l) : a = t.size - l.length := by have := h.len; omega
set_option maxHeartbeats 1000000 in
theorem wrongT_any (br : Nat) (t : ByteArray) (ht : t.size ≤ 20000) (w : World) (a : Nat) (l : List UInt8) (ha : At t a l) (h : TS br w t a) :
    Calls Tryz.prog 179 #[.pointer (some ⟨br, 0, none⟩)] w fun e w' => e = .panicked (stopC 1 ((t.size - (skipB l).length : Nat) : Int)) ∧ Kept (· ≠ br) w w' := by
  go_enter Tryz.func179, Tryz.ntmps179
  go_wp2_with (first
    | (go_at_call 178
       refine (skipT_any br t ht _ a l ha h).mono ?_; rintro e w1 ⟨rfl, ⟨a1, ha1, hr1⟩, hk1⟩; have f0 := hr1.c0
       have f1 := hr1.c1)
    | (go_at_call 122; refine (stop_any _ _ _).mono ?_; rintro e w4 ⟨rfl, rfl⟩)
    | fail)
  refine ⟨rfl, ?_, hk1⟩; rw [← ha1.posS]
set_option maxHeartbeats 1000000 in
theorem needT_yes (br : Nat) (t s : ByteArray) (ht : t.size ≤ 20000) (hs : s.size ≤ 10) (w : World) (a : Nat) (l r : List UInt8) (ha : At t a l) (h : TS br w t a) (htk : takeS s.data.toList l = some r) :
    Calls Tryz.prog 209 #[.pointer (some ⟨br, 0, none⟩), .string s] w fun e w' => e = .returned (.tuple #[]) ∧ (∃ a', At t a' r ∧ TS br w' t a') ∧ Kept (· ≠ br) w w' := by
  go_enter Tryz.func209, Tryz.ntmps209
  go_wp2_with (first
    | (go_at_call 176
       refine (takeT_yes br t s ht hs _ a l r ha h htk).mono ?_
       rintro e w1 ⟨rfl, hr1, hk1⟩)
    | fail)
  go_end0
  exact ⟨rfl, hr1, hk1⟩
set_option maxHeartbeats 1000000 in
theorem needT_no (br : Nat) (t s : ByteArray) (ht : t.size ≤ 20000) (w : World) (a : Nat) (l : List UInt8) (ha : At t a l) (h : TS br w t a) (htk : takeS s.data.toList l = none) :
    Calls Tryz.prog 209 #[.pointer (some ⟨br, 0, none⟩), .string s] w fun e w' => e = .panicked (stopC 1 ((t.size - (skipB l).length : Nat) : Int)) ∧ Kept (· ≠ br) w w' := by
  go_enter Tryz.func209, Tryz.ntmps209
  go_wp2_with (first
    | (go_at_call 176
       refine (takeT_no br t s ht _ a l ha h htk).mono ?_
       rintro e w1 ⟨rfl, ⟨a1, ha1, hr1⟩, hk1⟩)
    | (go_at_call 179
       refine (wrongT_any br t ht _ a1 (skipB l) ha1 hr1).mono ?_
       rintro e w2 ⟨rfl, hk2⟩)
    | fail)
  refine ⟨rfl, ?_, hk1.trans hk2⟩; rw [skipB_idem]
set_option maxHeartbeats 1000000 in
theorem endT_yes (br : Nat) (t : ByteArray) (ht : t.size ≤ 20000) (w : World) (a : Nat) (l : List UInt8) (ha : At t a l) (h : TS br w t a) (hl : skipB l = []) :
    Calls Tryz.prog 140 #[.pointer (some ⟨br, 0, none⟩)] w fun e w' => e = .returned (.tuple #[]) ∧ Kept (· ≠ br) w w' := by
  go_enter Tryz.func140, Tryz.ntmps140
  go_wp2_with (first
    | (go_at_call 178
       refine (skipT_any br t ht _ a l ha h).mono ?_
       rintro e w1 ⟨rfl, ⟨a1, ha1, hr1⟩, hk1⟩)
    | fail)
  have f0 := hr1.c0; have f1 := hr1.c1; have hlen := ha1.len; rw [hl] at hlen; simp at hlen; (have hge : ¬ (a1 : Int) < (t.size : Int) := by omega); have HK : Hid (Kept (· ≠ br) w w1) := hk1; clear ha1 hr1 hlen hk1
  go_quiet (fail)
  go_wp2
  go_end0
  exact ⟨rfl, HK.out.drewN _⟩
set_option maxHeartbeats 1000000 in
theorem endT_no (br : Nat) (t : ByteArray) (ht : t.size ≤ 20000) (w : World) (a : Nat) (l : List UInt8) (ha : At t a l) (h : TS br w t a) (hl : skipB l ≠ []) :
    Calls Tryz.prog 140 #[.pointer (some ⟨br, 0, none⟩)] w fun e w' => e = .panicked (stopC 1 ((t.size - (skipB l).length : Nat) : Int)) ∧ Kept (· ≠ br) w w' := by
  go_enter Tryz.func140, Tryz.ntmps140
  go_wp2_with (first
    | (go_at_call 178
       refine (skipT_any br t ht _ a l ha h).mono ?_
       rintro e w1 ⟨rfl, ⟨a1, ha1, hr1⟩, hk1⟩)
    | fail)
  have f0 := hr1.c0; have f1 := hr1.c1; have hlen := ha1.len; have hpos := List.length_pos_iff.2 hl; (have hlt : (a1 : Int) < (t.size : Int) := by omega); have HA : Hid (At t a1 (skipB l)) := ha1; have HR : Hid (TS br w1 t a1) := hr1; have HK : Hid (Kept (· ≠ br) w w1) := hk1; clear ha1 hr1 hlen hpos hk1
  go_quiet (fail)
  go_wp2_with (first
    | (go_at_call 179
       refine (wrongT_any br t ht _ a1 (skipB l) HA.out (HR.out.drewN _)).mono ?_
       rintro e w2 ⟨rfl, hk2⟩)
    | fail)
  refine ⟨rfl, ?_, (HK.out.drewN _).trans hk2⟩; rw [skipB_idem]
end Go.Proofs.YtheiikkeelbjnajGreat
