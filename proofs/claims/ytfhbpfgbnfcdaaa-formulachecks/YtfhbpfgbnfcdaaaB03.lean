/- Texts of one proof, one behind the other: Walk1, Walk2, Walk3. -/
import Derived.Test.YtfhbpfgbnfcdaaaB01
import Derived.Test.YtfhbpfgbnfcdaaaB02
import Derived.Deep.LoopGhost
/- Walks: the reader's small steps. -/
namespace Go.Proofs.Ytfhbpfgbnfcdaaa
open Go.RowKit

theorem At.slice {t : ByteArray} {a : Nat} {l : List UInt8} (h : At t a l) : (t.extract a t.size).data.toList = l := by
  (rw [← h.2, ByteArray.data_extract, Array.toList_extract, ← ByteArray.size_data, ← Array.length_toList, List.extract_eq_take_drop, List.take_of_length_le (by simp)])

set_option maxHeartbeats 1000000 in
theorem skip_any (br : Nat) (t : ByteArray) (ht : t.size ≤ 20000) (n : Nat) (w : World) (a : Nat) (l : List UInt8) (ha : At t a l) (h : RS br w t a n) :
    Calls Try.prog 84 #[.pointer (some ⟨br, 0, none⟩)] w fun e w' => e = .returned (.tuple #[]) ∧ (∃ a', At t a' (skipB l) ∧ RS br w' t a' n) ∧ Kept (· ≠ br) w w' := by
  go_enter Try.func84, Try.ntmps84
  go_wp2
  go_loopg [] l.length (fun k wr => ∃ a' l', At t a' l' ∧ l'.length = k ∧ skipB l' = skipB l ∧ RS br wr t a' n ∧ Kept (· ≠ br) w wr)
  case atStart => exact ⟨a, l, ha, rfl, rfl, h, Kept.refl _ _⟩
  case round =>
    obtain ⟨a', l', ha', hl', hsk, hrs, hkept⟩ := hrel; have hlen := ha'.len; have f0 := hrs.c0; have f1 := hrs.c1; have f2 := hrs.fz 1; have HS : Hid (skipB l' = skipB l) := hsk; clear hsk; have HA : Hid (At t a' l') := ha'; clear ha'; have HR : Hid (RS br wr t a' n) := hrs; clear hrs; have HL : Hid (l'.length = gk) := hl'; clear hl'
    cases l' with
    | nil =>
      simp at hlen; (have hd : decide ((a' : Int) < (t.size : Int)) = false := by simp; omega); go_wp2
      go_quiet (fail)
      go_wp2
      go_end0
      exact ⟨rfl, ⟨a', by rw [← HS.out]; exact HA.out, HR.out⟩, hkept.drewN _⟩
    | cons c l' =>
      simp at hlen; (have hlt : (a' : Int) < (t.size : Int) := by omega); (have hlt' : a' < t.size := by omega); have hhd : t[a'] = c := HA.out.head hlt'; (have hl1 : (t.size : Int) ≤ 20000 := by omega); by_cases h1 : blank c
      · have hx : ((t[a'].toNat : Int) = 32) ∨ ((t[a'].toNat : Int) = 10) := by
          rw [hhd]; simp only [blank, Bool.or_eq_true, beq_iff_eq] at h1
          rcases h1 with h | h <;> subst h
          · left; rfl
          · right; rfl
        (have HN : Hid (At t (a' + 1) l' ∧ skipB l' = skipB l) := ⟨HA.out.cons, by rw [← HS.out, skipB, if_pos h1]⟩); clear hhd h1
        rcases hx with hx | hx
        all_goals
          go_wp2
          go_quiet (fail)
          go_wp2
          go_roundg l'.length
          case measure => have := HL.out; simp at this; omega
          case rel => exact ⟨a' + 1, l', HN.out.1, rfl, HN.out.2, (HR.out.set1 (a' + 1)).drewN _, (hkept.drewN _).setCell (by simp) _⟩
      · have hx : ¬ ((t[a'].toNat : Int) = 32) := by
          (rw [hhd]; intro h; apply h1; have : c = 32 := UInt8.toNat_inj.1 (by simpa using (Int.ofNat.inj h)); simp [blank, this])
        have hy : ¬ ((t[a'].toNat : Int) = 10) := by
          (rw [hhd]; intro h; apply h1; have : c = 10 := UInt8.toNat_inj.1 (by simpa using (Int.ofNat.inj h)); simp [blank, this])
        (have hx' : ((t[a'].toNat : Int) == 32) = false := by simpa using hx); (have hy' : ((t[a'].toNat : Int) == 10) = false := by simpa using hy); (have HN : Hid (At t a' (c :: l') ∧ c :: l' = skipB l) := ⟨HA.out, by rw [← HS.out, skipB, if_neg h1]⟩); clear hhd h1; go_wp2
        go_quiet (fail)
        go_wp2
        go_end0
        (exact ⟨rfl, ⟨a', by rw [← HN.out.2]; exact HN.out.1, HR.out⟩, hkept.drewN _⟩)
end Go.Proofs.Ytfhbpfgbnfcdaaa
/- Walks: the reader's small steps, two. -/
namespace Go.Proofs.Ytfhbpfgbnfcdaaa
open Go.RowKit

theorem ret_int {k : IntKind} {a b : Int} (h : a = b) : Ending.returned (.int k a) = .returned (.int k b) := by rw [h]
theorem ret_bool {a b : Bool} (h : a = b) : Ending.returned (.bool a) = .returned (.bool b) := by rw [h]

theorem pre_any {s p : ByteArray} {b : Bool} (h : Lib.hasPrefix s.data.toList p.data.toList = b) (w : World) :
    Calls Try.prog 132 #[.string s, .string p] w fun e w' => e = .returned (.bool b) ∧ w' = w := by
  subst h; exact Try.strings_HasPrefix s p w

set_option maxHeartbeats 1000000 in
theorem take_yes (br : Nat) (t s : ByteArray) (ht : t.size ≤ 20000) (hs : s.size ≤ 10) (n : Nat) (w : World) (a : Nat) (l r : List UInt8) (ha : At t a l) (h : RS br w t a n) (htk : takeS s.data.toList l = some r) :
    Calls Try.prog 108 #[.pointer (some ⟨br, 0, none⟩), .string s] w fun e w' => e = .returned (.bool true) ∧ (∃ a', At t a' r ∧ RS br w' t a' n) ∧ Kept (· ≠ br) w w' := by
  have HT : Hid (Lib.hasPrefix (skipB l) s.data.toList = true ∧ (skipB l).drop s.size = r ∧ s.size ≤ (skipB l).length) := by
    unfold takeS at htk
    split at htk
    · rename_i hp
      have := List.IsPrefix.length_le (List.isPrefixOf_iff_prefix.1 hp); rw [show s.data.toList.length = s.size from Array.length_toList] at htk this; exact ⟨hp, Option.some.inj htk, this⟩
    · cases htk
  clear htk
  go_enter Try.func108, Try.ntmps108
  go_wp2_with (go_at_call 84; refine (skip_any br t ht n _ a l ha h).mono ?_; rintro e w1 ⟨rfl, ⟨a1, ha1, hr1⟩, hk1⟩); have f0 := hr1.c0; have f1 := hr1.c1; have f2 := hr1.fz 1; have hlen := ha1.len; (have hle : (a1 : Int) ≤ (t.size : Int) := by omega); (have hl1 : (t.size : Int) ≤ 20000 := by omega); (have hl2 : (s.size : Int) ≤ 10 := by omega); have HA : Hid (At t a1 (skipB l)) := ha1; clear ha1 ha; (have hp := pre_any (s := t.extract a1 t.size) (p := s) (b := true) (by rw [HA.out.slice]; exact HT.out.1))
  go_quiet ((go_at_call 132; exact Calls.quiet_of_same (hp _)))
  clear hp; go_wp2; go_ret; refine ⟨rfl, ⟨a1 + s.size, ?_, ?_⟩, ?_⟩
  · rw [← HT.out.2.1]; exact HA.out.drop _ HT.out.2.2
  · exact (hr1.set1 (a1 + s.size)).drewN _
  · exact (hk1.drewN _).setCell (by simp) _

set_option maxHeartbeats 1000000 in
theorem take_no (br : Nat) (t s : ByteArray) (ht : t.size ≤ 20000) (n : Nat) (w : World) (a : Nat) (l : List UInt8) (ha : At t a l) (h : RS br w t a n) (htk : takeS s.data.toList l = none) :
    Calls Try.prog 108 #[.pointer (some ⟨br, 0, none⟩), .string s] w fun e w' => e = .returned (.bool false) ∧ (∃ a', At t a' (skipB l) ∧ RS br w' t a' n) ∧ Kept (· ≠ br) w w' := by
  have HT : Hid (Lib.hasPrefix (skipB l) s.data.toList = false) := by
    unfold takeS at htk
    split at htk
    · cases htk
    · rename_i hp; exact Bool.eq_false_iff.2 hp
  clear htk
  go_enter Try.func108, Try.ntmps108
  go_wp2_with (go_at_call 84; refine (skip_any br t ht n _ a l ha h).mono ?_; rintro e w1 ⟨rfl, ⟨a1, ha1, hr1⟩, hk1⟩); have f0 := hr1.c0; have f1 := hr1.c1; have hlen := ha1.len; (have hle : (a1 : Int) ≤ (t.size : Int) := by omega); (have hl1 : (t.size : Int) ≤ 20000 := by omega); have HA : Hid (At t a1 (skipB l)) := ha1; clear ha1 ha; (have hp := pre_any (s := t.extract a1 t.size) (p := s) (b := false) (by rw [HA.out.slice]; exact HT.out))
  go_quiet ((go_at_call 132; exact Calls.quiet_of_same (hp _)))
  clear hp; go_wp2; go_ret; exact ⟨rfl, ⟨a1, HA.out, hr1.drewN _⟩, hk1.drewN _⟩

set_option maxHeartbeats 1000000 in
theorem letters_any (s : ByteArray) (hs : s.size ≤ maxLen) (w : World) :
    Calls Try.prog 91 #[.string s] w fun e w' => e = .returned (.int .i64 (letters s.data.toList).length) ∧ w' = w := by
  unfold maxLen at hs
  go_enter Try.func91, Try.ntmps91
  go_wp2
  go_loop [3] (fun v => ∃ k l, At s k l ∧ v = .int .i64 (k : Nat) ∧ (letters s.data.toList).length = k + (letters l).length) (fun v => s.size - (intOf v).toNat)
  case atStart => exact ⟨0, s.data.toList, ⟨Nat.zero_le _, by simp⟩, rfl, by simp⟩
  case round =>
    obtain ⟨k, l, ha, rfl, hl⟩ := hrel; have hlen := ha.len; have HL : Hid (At s k l ∧ (letters s.data.toList).length = k + (letters l).length) := ⟨ha, hl⟩; clear ha hl
    cases l with
    | nil =>
      simp at hlen; (have hd : decide ((k : Int) < (s.size : Int)) = false := by simp; omega); go_wp2; go_ret
      exact ⟨ret_int (by have := HL.out.2; simp only [letters, List.length_nil] at this; omega), rfl⟩
    | cons c l =>
      simp at hlen; (have hlt' : k < s.size := by omega); (have hlt : (k : Int) < (s.size : Int) := by omega); have hhd : s[k] = c := HL.out.1.head hlt'; by_cases hc : lower c
      · have hx : (97 : Int) ≤ (s[k].toNat : Int) := by rw [hhd]; simp [lower] at hc; omega
        (have hy : (s[k].toNat : Int) ≤ 122 := by rw [hhd]; simp [lower] at hc; omega); (have HN : Hid (At s (k + 1) l ∧ (letters s.data.toList).length = (k + 1) + (letters l).length) := ⟨HL.out.1.cons, by rw [HL.out.2, letters, if_pos hc]; simp; omega⟩); clear hhd hc; go_wp2
        go_round
        case rel => exact ⟨k + 1, l, HN.out.1, by go_num, HN.out.2⟩
        case measure => simp [intOf]; omega
      · have hx : ¬ ((97 : Int) ≤ (s[k].toNat : Int) ∧ (s[k].toNat : Int) ≤ 122) := by rw [hhd]; simp [lower] at hc; omega
        (have HN : Hid ((letters s.data.toList).length = k) := by show _ = _; rw [HL.out.2, letters, if_neg hc]; rfl); clear hhd hc; go_wp2
        all_goals
          go_ret; (exact ⟨ret_int (by have := HN.out; omega), rfl⟩)

set_option maxHeartbeats 1000000 in
theorem isName_any (s : ByteArray) (hs : s.size ≤ maxLen) (w : World) :
    Calls Try.prog 60 #[.string s] w fun e w' => e = .returned (.bool (isNm s.data.toList)) ∧ w' = w := by
  have hsz : s.data.toList.length = s.size := Array.length_toList; have hlt := letters_length s.data.toList; have HB : Hid (s.data.toList.length = s.size) := hsz; rw [hsz] at hlt; unfold maxLen at hs; (have hc := letters_any s (by unfold maxLen; exact hs))
  go_enter Try.func60, Try.ntmps60
  go_wp2_with (go_at_call 91; refine (hc _).mono ?_; rintro e w1 ⟨rfl, rfl⟩)
  all_goals
    go_ret; refine ⟨ret_bool ?_, rfl⟩
  · rename_i hh
    rw [ByteArray.toList_eq] at hh; simp [isNm, hh]
  · rename_i h1 h2
    rw [ByteArray.toList_eq] at h1 ⊢; (have h3 : s.data.toList.length ≤ 8 := by have := HB.out; omega); rw [← HB.out]; simp only [isNm, h3, decide_true, Bool.and_true, List.isEmpty_eq_false_iff.2 h1, Bool.not_false, Bool.true_and, ne_eq, h1, not_false_eq_true]; rw [Bool.eq_iff_iff]; simp; omega
  · rename_i h1 h2
    (have h3 : ¬ s.data.toList.length ≤ 8 := by have := HB.out; omega); simp only [isNm, h3, decide_false, Bool.and_false, Bool.false_and]

/-- The panic that a fault is. -/
def stopC (code at_ : Int) : List PanicEntry := [{ v := .iface 111 (.agg #[.int .i64 code, .int .i64 at_]), recovered := false }]

set_option maxHeartbeats 400000 in
theorem stop_any (code at_ : Int) (w : World) :
    Calls Try.prog 78 #[.int .i64 code, .int .i64 at_] w fun e w' => e = .panicked (stopC code at_) ∧ w' = w := by
  go_enter Try.func78, Try.ntmps78
  go_wp2; exact ⟨rfl, rfl, rfl⟩

set_option maxHeartbeats 400000 in
theorem node_any (br : Nat) (kind : Int) (t : ByteArray) (a n : Nat) (sl : Option Addr) (len cap : Nat) (w : World) (h : RS br w t a n) (hn : n ≤ 20000) :
    Calls Try.prog 109 #[.pointer (some ⟨br, 0, none⟩), .int .i64 kind, .slice sl len cap] w fun e w' => e = .returned (.agg #[.int .i64 kind, .string ⟨#[]⟩, .slice sl len cap]) ∧ RS br w' t a (n + 1) ∧ Kept (· ≠ br) w w' := by
  have f2 := h.c2; have f3 := h.fz 2; have hb := h.lt; (have hn' : (n : Int) ≤ 20000 := by omega)
  go_enter Try.func109, Try.ntmps109
  go_wp2; (refine bodyPost_ret (v := .agg #[.int .i64 kind, .string ⟨#[]⟩, .slice sl len cap]) (by simp [results, Try.results109, go_sem]) rfl ⟨rfl, ?_, ?_⟩)
  · exact (h.set2 (n + 1)).alloc _
  · exact ((Kept.refl _ _).setCell (by simp) _).alloc _
end Go.Proofs.Ytfhbpfgbnfcdaaa
/- Walks: the reader's names. -/
namespace Go.Proofs.Ytfhbpfgbnfcdaaa
open Go.RowKit

set_option maxHeartbeats 400000 in
theorem clone_any (s : ByteArray) (w : World) (hlim : s.size ≤ 281474976710656) :
    Calls Try.prog 54 #[.string s] w fun e w' => e = .returned (.string s) ∧ Below w.heap.size w w' := by
  go_enter Try.func54, Try.ntmps54
  go_wp2_with (go_at_call 86; refine (Try.stringslite_Clone s _ hlim).mono ?_; rintro e w1 ⟨rfl, hb⟩); go_ret; exact ⟨rfl, hb⟩

theorem letters_prefix (l : List UInt8) : letters l = l.take (letters l).length := by
  induction l with
  | nil => simp [letters]
  | cons c l ih => simp only [letters]; split; · simp; exact ih
                   · simp

theorem isNm_le {l : List UInt8} (h : isNm l = true) : l.length ≤ 8 := by
  simp [isNm] at h; omega

theorem take_data (x : ByteArray) (l : List UInt8) (k : Nat) (h : x.data.toList = l) : (x.extract 0 k).data.toList = l.take k := by
  rw [ByteArray.data_extract, Array.toList_extract, h, List.extract_eq_take_drop]; simp

set_option maxHeartbeats 1000000 in
theorem name_any (br : Nat) (t : ByteArray) (ht : t.size ≤ 20000) (n : Nat) (hn : n ≤ 20000) (w : World) (a : Nat) (l : List UInt8) (ha : At t a l) (h : RS br w t a n) (hnm : isNm (letters (skipB l)) = true) :
    Calls Try.prog 143 #[.pointer (some ⟨br, 0, none⟩)] w fun e w' => ∃ v, e = .returned v ∧ Rep w' (· ≠ br) (nmF (letters (skipB l))) v ∧ (∃ a', At t a' ((skipB l).drop (letters (skipB l)).length) ∧ RS br w' t a' (n + 1)) ∧ Kept (· ≠ br) w w' := by
  (have hne : w.heap.size ≠ br := by have := h.lt; omega)
  go_enter Try.func143, Try.ntmps143
  go_wp2_with (go_at_call 84; refine (skip_any br t ht n _ a l ha (h.alloc _)).mono ?_; rintro e w1 ⟨rfl, ⟨a1, ha1, hr1⟩, hk1⟩); have f0 := hr1.c0; have f1 := hr1.c1; have f2 := hr1.fz 1; have hlen := ha1.len; (have hle : (a1 : Int) ≤ (t.size : Int) := by omega); (have hl1 : (t.size : Int) ≤ 20000 := by omega); have HA : Hid (At t a1 (skipB l)) := ha1; clear ha1 ha
  go_quiet (fail)
  have hle2 := letters_length (skipB l); have HS := HA.out.slice; generalize hx : t.extract a1 t.size = x at HS ⊢; (have hxs : x.size = (skipB l).length := by rw [← HS]; exact Array.length_toList.symm); (have hlc := letters_any x (by unfold maxLen; omega)); rw [HS] at hlc; have hsn := take_data x _ (letters (skipB l)).length HS; rw [← letters_prefix] at hsn; have HX : Hid (t.extract a1 t.size = x ∧ x.data.toList = skipB l) := ⟨hx, HS⟩; clear hx HS; (have b1 : ((letters (skipB l)).length : Int) ≤ (x.size : Int) := by omega); (have b2 : ((letters (skipB l)).length : Int) ≤ 8 := by have := isNm_le hnm; omega)
  have hy0 : x.extract 0 (letters (skipB l)).length = ⟨(letters (skipB l)).toArray⟩ := by
    apply ByteArray.ext; apply Array.ext'; rw [hsn]
  (have hys : (⟨(letters (skipB l)).toArray⟩ : ByteArray).size = (letters (skipB l)).length := by simp [ByteArray.size]); clear hsn; (have hin := isName_any ⟨(letters (skipB l)).toArray⟩ (by unfold maxLen; omega)); rw [show (⟨(letters (skipB l)).toArray⟩ : ByteArray).data.toList = letters (skipB l) from rfl, hnm] at hin; (have hcl := fun w => clone_any ⟨(letters (skipB l)).toArray⟩ w (by omega)); generalize hlet : letters (skipB l) = lt at *
  go_wp2_with (first
    | (go_at_call 91; refine (hlc _).mono ?_; rintro e w2 ⟨rfl, rfl⟩)
    | (go_at_call 60; refine (hin _).mono ?_; rintro e w2 ⟨rfl, rfl⟩)
    | (go_at_call 109
       refine (node_any br 1 t (a1 + lt.length) n none 0 0 _ ((hr1.drewN _).set1 (a1 + lt.length)) hn).mono ?_; rintro e w2 ⟨rfl, hr2, hk2⟩
       have q2 : w2.heap[w.heap.size]? = some (.cells #[.int .i64 0, .string ⟨#[]⟩, .slice none 0 0] 24 (0, 0)) := by
         (rw [hk2.block _ (by have := hk1.size; simp at this; simp [World.setCell, World.drewN]; omega) hne, Below.heap_setCell _ _ _ _ hne])
         exact (hk1.block _ (by simp) hne).trans (blk_new _ _))
    | (go_at_call 54
       refine (hcl _).mono ?_; rintro e w3 ⟨rfl, hb3⟩; have z2 : w.heap.size < w2.heap.size := lt_of_block q2
       have q3 : w3.heap[w2.heap.size]? = some (.cells #[.int .i64 1, .string ⟨#[]⟩, .slice none 0 0] 24 (0, 0)) := by
         (rw [hb3.block _ (by simp)]; exact blk_new _ _)
       have q4 : w3.heap[w.heap.size]? = some (.cells #[.int .i64 0, .string ⟨#[]⟩, .slice none 0 0] 24 (0, 0)) := by
         (rw [hb3.block _ (by simp; omega), Below.heap_alloc _ _ _ z2]; exact q2)
       (have q5 : ¬ w2.heap.size = w.heap.size := by omega); (have q6 : ¬ w.heap.size = w2.heap.size := by omega); obtain ⟨g1, g2, g3, g4, g5, g6⟩ := blk3 q3
       obtain ⟨k1, k2, k3, k4, k5, k6⟩ := blk3 q4)
    | fail)
  (refine bodyPost_ret (v := .agg #[.int .i64 1, .string ⟨lt.toArray⟩, .slice none 0 0]) (by simp [results, Try.results143, go_sem, k1, k2, k3]) rfl ⟨_, rfl, ?_, ⟨a1 + lt.length, ?_, ?_⟩, ?_⟩)
  · rw [hlet]; exact Rep.leaf (by rw [hys]; unfold maxLen; omega)
  · rw [hlet]; exact HA.out.drop _ hle2
  · have hne2 : w2.heap.size ≠ br := by have := hr2.lt; omega
    exact (((((hr2.alloc _).below hb3).other hne2 _).other hne _).other hne _).other hne _
  · have k0 : Kept (· ≠ br) w w2 := ((((Kept.refl _ _).alloc _).trans hk1).drewN nq |>.setCell (by simp) _).trans hk2
    (have k9 : Kept (· ≠ br) w w3 := (k0.alloc _).trans (kept_of_below hb3 (fun _ h _ => h))); (exact (((k9.setCell (fun h => by simp at h; omega) _).setCell (fun h => by simp at h) _).setCell (fun h => by simp at h) _).setCell (fun h => by simp at h) _)

set_option maxHeartbeats 1000000 in
theorem name_bad (br : Nat) (t : ByteArray) (ht : t.size ≤ 20000) (n : Nat) (w : World) (a : Nat) (l : List UInt8) (ha : At t a l) (h : RS br w t a n) (hnm : isNm (letters (skipB l)) = false) :
    Calls Try.prog 143 #[.pointer (some ⟨br, 0, none⟩)] w fun e w' => ∃ a', e = .panicked (stopC 1 (a' : Nat)) ∧ At t a' (skipB l) ∧ Kept (· ≠ br) w w' := by
  (have hne : w.heap.size ≠ br := by have := h.lt; omega)
  go_enter Try.func143, Try.ntmps143
  go_wp2_with (go_at_call 84; refine (skip_any br t ht n _ a l ha (h.alloc _)).mono ?_; rintro e w1 ⟨rfl, ⟨a1, ha1, hr1⟩, hk1⟩); have f0 := hr1.c0; have f1 := hr1.c1; have f2 := hr1.fz 1; have hlen := ha1.len; (have hle : (a1 : Int) ≤ (t.size : Int) := by omega); (have hl1 : (t.size : Int) ≤ 20000 := by omega); have HA : Hid (At t a1 (skipB l)) := ha1; clear ha1 ha
  go_quiet (fail)
  have hle2 := letters_length (skipB l); have HS := HA.out.slice; generalize hx : t.extract a1 t.size = x at HS ⊢; (have hxs : x.size = (skipB l).length := by rw [← HS]; exact Array.length_toList.symm); (have hlc := letters_any x (by unfold maxLen; omega)); rw [HS] at hlc; have hsn := take_data x _ (letters (skipB l)).length HS; rw [← letters_prefix] at hsn; have HX : Hid (t.extract a1 t.size = x ∧ x.data.toList = skipB l) := ⟨hx, HS⟩; clear hx HS; (have b1 : ((letters (skipB l)).length : Int) ≤ (x.size : Int) := by omega)
  have hy0 : x.extract 0 (letters (skipB l)).length = ⟨(letters (skipB l)).toArray⟩ := by
    apply ByteArray.ext; apply Array.ext'; rw [hsn]
  (have hys : (⟨(letters (skipB l)).toArray⟩ : ByteArray).size = (letters (skipB l)).length := by simp [ByteArray.size]); clear hsn; (have hin := isName_any ⟨(letters (skipB l)).toArray⟩ (by unfold maxLen; omega)); rw [show (⟨(letters (skipB l)).toArray⟩ : ByteArray).data.toList = letters (skipB l) from rfl, hnm] at hin; generalize hlet : letters (skipB l) = lt at *
  go_wp2_with (first
    | (go_at_call 91; refine (hlc _).mono ?_; rintro e w2 ⟨rfl, rfl⟩)
    | (go_at_call 60; refine (hin _).mono ?_; rintro e w2 ⟨rfl, rfl⟩)
    | (go_at_call 78; refine (stop_any _ _ _).mono ?_; rintro e w3 ⟨rfl, rfl⟩)
    | fail)
  exact ⟨rfl, a1, rfl, HA.out, (((Kept.refl _ _).alloc _).trans hk1).drewN nq⟩
end Go.Proofs.Ytfhbpfgbnfcdaaa
