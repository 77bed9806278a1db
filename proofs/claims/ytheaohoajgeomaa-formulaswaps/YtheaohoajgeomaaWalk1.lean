/- Walks: the reader's small steps. -/
import Derived.Test.YtheaohoajgeomaaBase
import Derived.Test.YtheaohoajgeomaaShelf
import Derived.Deep.LoopGhost
namespace Go.Proofs.Ytheaohoajgeomaa
open Go.RowKit

theorem At.slice {t : ByteArray} {a : Nat} {l : List UInt8} (h : At t a l) : (t.extract a t.size).data.toList = l := by
  rw [← h.2, ByteArray.data_extract, Array.toList_extract, ← ByteArray.size_data, ← Array.length_toList, List.extract_eq_take_drop, List.take_of_length_le (by simp)]

set_option maxHeartbeats 1000000 in
theorem skip_any (br : Nat) (t : ByteArray) (ht : t.size ≤ 20000) (n : Nat) (w : World) (a : Nat) (l : List UInt8) (ha : At t a l) (h : RS br w t a n) :
    Calls Try.prog 65 #[.pointer (some ⟨br, 0, none⟩)] w fun e w' => e = .returned (.tuple #[]) ∧ (∃ a', At t a' (skipB l) ∧ RS br w' t a' n) ∧ Kept (· ≠ br) w w' := by
  go_enter Try.func65, Try.ntmps65
  go_wp2
  go_loopg [] l.length (fun k wr => ∃ a' l', At t a' l' ∧ l'.length = k ∧ skipB l' = skipB l ∧ RS br wr t a' n ∧ Kept (· ≠ br) w wr)
  case atStart => exact ⟨a, l, ha, rfl, rfl, h, Kept.refl _ _⟩
  case round =>
    obtain ⟨a', l', ha', hl', hsk, hrs, hkept⟩ := hrel
    have hlen := ha'.len
    have f0 := hrs.c0
    have f1 := hrs.c1
    have f2 := hrs.fz 1
    have HS : Hid (skipB l' = skipB l) := hsk
    clear hsk
    have HA : Hid (At t a' l') := ha'
    clear ha'
    have HR : Hid (RS br wr t a' n) := hrs
    clear hrs
    have HL : Hid (l'.length = gk) := hl'
    clear hl'
    cases l' with
    | nil =>
      simp at hlen
      have hd : decide ((a' : Int) < (t.size : Int)) = false := by simp; omega
      go_wp2
      go_quiet (fail)
      go_wp2
      go_end0
      exact ⟨rfl, ⟨a', by rw [← HS.out]; exact HA.out, HR.out⟩, hkept.drewN _⟩
    | cons c l' =>
      simp at hlen
      have hlt : (a' : Int) < (t.size : Int) := by omega
      have hlt' : a' < t.size := by omega
      have hhd : t[a'] = c := HA.out.head hlt'
      have hl1 : (t.size : Int) ≤ 20000 := by omega
      by_cases h1 : blank c
      · have hx : ((t[a'].toNat : Int) = 32) ∨ ((t[a'].toNat : Int) = 10) := by
          rw [hhd]; simp only [blank, Bool.or_eq_true, beq_iff_eq] at h1
          rcases h1 with h | h <;> subst h
          · left; rfl
          · right; rfl
        have HN : Hid (At t (a' + 1) l' ∧ skipB l' = skipB l) := ⟨HA.out.cons, by rw [← HS.out, skipB, if_pos h1]⟩
        clear hhd h1
        rcases hx with hx | hx
        all_goals
          go_wp2
          go_quiet (fail)
          go_wp2
          go_roundg l'.length
          case measure => have := HL.out; simp at this; omega
          case rel => exact ⟨a' + 1, l', HN.out.1, rfl, HN.out.2, (HR.out.set1 (a' + 1)).drewN _, (hkept.drewN _).setCell (by simp) _⟩
      · have hx : ¬ ((t[a'].toNat : Int) = 32) := by
          rw [hhd]; intro h; apply h1; have : c = 32 := UInt8.toNat_inj.1 (by simpa using (Int.ofNat.inj h)); simp [blank, this]
        have hy : ¬ ((t[a'].toNat : Int) = 10) := by
          rw [hhd]; intro h; apply h1; have : c = 10 := UInt8.toNat_inj.1 (by simpa using (Int.ofNat.inj h)); simp [blank, this]
        have hx' : ((t[a'].toNat : Int) == 32) = false := by simpa using hx
        have hy' : ((t[a'].toNat : Int) == 10) = false := by simpa using hy
        have HN : Hid (At t a' (c :: l') ∧ c :: l' = skipB l) := ⟨HA.out, by rw [← HS.out, skipB, if_neg h1]⟩
        clear hhd h1
        go_wp2
        go_quiet (fail)
        go_wp2
        go_end0
        exact ⟨rfl, ⟨a', by rw [← HN.out.2]; exact HN.out.1, HR.out⟩, hkept.drewN _⟩
end Go.Proofs.Ytheaohoajgeomaa
