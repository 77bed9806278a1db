/- Texts of one proof, one behind the other: Walk3. -/
import Derived.Test.YtffkoiemnchdgaaB05
/- Walks: the reader's names. -/
namespace Go.Proofs.Ytffkoiemnchdgaa
open Go.RowKit

set_option maxHeartbeats 400000 in
theorem clone_any (s : ByteArray) (w : World) (hlim : s.size ≤ 281474976710656) :
    Calls Try.prog 54 #[.string s] w fun e w' => e = .returned (.string s) ∧ Below w.heap.size w w' := by
  go_enter Try.func54, Try.ntmps54
  go_wp2_with (go_at_call 86; refine (Try.stringslite_Clone s _ hlim).mono ?_; rintro e w1 ⟨rfl, hb⟩); go_ret; exact ⟨rfl, hb⟩

theorem letters_prefix (l : List UInt8) : letters l = l.take (letters l).length := by
  induction l with
  | nil => simp [letters]
  | cons c l ih => simp only [letters]; split; · simp; exact ih
                   · simp

theorem isNm_le {l : List UInt8} (h : isNm l = true) : l.length ≤ 8 := by
  simp [isNm] at h; omega

theorem take_data (x : ByteArray) (l : List UInt8) (k : Nat) (h : x.data.toList = l) : (x.extract 0 k).data.toList = l.take k := by
  rw [ByteArray.data_extract, Array.toList_extract, h, List.extract_eq_take_drop]; simp

set_option maxHeartbeats 1000000 in
theorem name_any (br : Nat) (t : ByteArray) (ht : t.size ≤ 20000) (n : Nat) (hn : n ≤ 20000) (w : World) (a : Nat) (l : List UInt8) (ha : At t a l) (h : RS br w t a n) (hnm : isNm (letters (skipB l)) = true) :
    Calls Try.prog 143 #[.pointer (some ⟨br, 0, none⟩)] w fun e w' => ∃ v, e = .returned v ∧ Rep w' (· ≠ br) (nmF (letters (skipB l))) v ∧ (∃ a', At t a' ((skipB l).drop (letters (skipB l)).length) ∧ RS br w' t a' (n + 1)) ∧ Kept (· ≠ br) w w' := by
  (have hne : w.heap.size ≠ br := by have := h.lt; omega)
  go_enter Try.func143, Try.ntmps143
  go_wp2_with (go_at_call 84; refine (skip_any br t ht n _ a l ha (h.alloc _)).mono ?_; rintro e w1 ⟨rfl, ⟨a1, ha1, hr1⟩, hk1⟩); have f0 := hr1.c0; have f1 := hr1.c1; have f2 := hr1.fz 1; have hlen := ha1.len; (have hle : (a1 : Int) ≤ (t.size : Int) := by omega); (have hl1 : (t.size : Int) ≤ 20000 := by omega); have HA : Hid (At t a1 (skipB l)) := ha1; clear ha1 ha
  go_quiet (fail)
  have hle2 := letters_length (skipB l); have HS := HA.out.slice; generalize hx : t.extract a1 t.size = x at HS ⊢; (have hxs : x.size = (skipB l).length := by rw [← HS]; exact Array.length_toList.symm); (have hlc := letters_any x (by unfold maxLen; omega)); rw [HS] at hlc; have hsn := take_data x _ (letters (skipB l)).length HS; rw [← letters_prefix] at hsn; have HX : Hid (t.extract a1 t.size = x ∧ x.data.toList = skipB l) := ⟨hx, HS⟩; clear hx HS; (have b1 : ((letters (skipB l)).length : Int) ≤ (x.size : Int) := by omega); (have b2 : ((letters (skipB l)).length : Int) ≤ 8 := by have := isNm_le hnm; omega)
  have hy0 : x.extract 0 (letters (skipB l)).length = ⟨(letters (skipB l)).toArray⟩ := by
    apply ByteArray.ext; apply Array.ext'; rw [hsn]
  (have hys : (⟨(letters (skipB l)).toArray⟩ : ByteArray).size = (letters (skipB l)).length := by simp [ByteArray.size]); clear hsn; (have hin := isName_any ⟨(letters (skipB l)).toArray⟩ (by unfold maxLen; omega)); rw [show (⟨(letters (skipB l)).toArray⟩ : ByteArray).data.toList = letters (skipB l) from rfl, hnm] at hin; (have hcl := fun w => clone_any ⟨(letters (skipB l)).toArray⟩ w (by omega)); generalize hlet : letters (skipB l) = lt at *
  go_wp2_with (first
    | (go_at_call 91; refine (hlc _).mono ?_; rintro e w2 ⟨rfl, rfl⟩)
    | (go_at_call 60; refine (hin _).mono ?_; rintro e w2 ⟨rfl, rfl⟩)
    | (go_at_call 109
       refine (node_any br 1 t (a1 + lt.length) n none 0 0 _ ((hr1.drewN _).set1 (a1 + lt.length)) hn).mono ?_; rintro e w2 ⟨rfl, hr2, hk2⟩
       have q2 : w2.heap[w.heap.size]? = some (.cells #[.int .i64 0, .string ⟨#[]⟩, .slice none 0 0] 24 (0, 0)) := by
         (rw [hk2.block _ (by have := hk1.size; simp at this; simp [World.setCell, World.drewN]; omega) hne, Below.heap_setCell _ _ _ _ hne])
         exact (hk1.block _ (by simp) hne).trans (blk_new _ _))
    | (go_at_call 54
       refine (hcl _).mono ?_; rintro e w3 ⟨rfl, hb3⟩; have z2 : w.heap.size < w2.heap.size := lt_of_block q2
       have q3 : w3.heap[w2.heap.size]? = some (.cells #[.int .i64 1, .string ⟨#[]⟩, .slice none 0 0] 24 (0, 0)) := by
         (rw [hb3.block _ (by simp)]; exact blk_new _ _)
       have q4 : w3.heap[w.heap.size]? = some (.cells #[.int .i64 0, .string ⟨#[]⟩, .slice none 0 0] 24 (0, 0)) := by
         (rw [hb3.block _ (by simp; omega), Below.heap_alloc _ _ _ z2]; exact q2)
       (have q5 : ¬ w2.heap.size = w.heap.size := by omega); (have q6 : ¬ w.heap.size = w2.heap.size := by omega); obtain ⟨g1, g2, g3, g4, g5, g6⟩ := blk3 q3
       obtain ⟨k1, k2, k3, k4, k5, k6⟩ := blk3 q4)
    | fail)
  (refine bodyPost_ret (v := .agg #[.int .i64 1, .string ⟨lt.toArray⟩, .slice none 0 0]) (by simp [results, Try.results143, go_sem, k1, k2, k3]) rfl ⟨_, rfl, ?_, ⟨a1 + lt.length, ?_, ?_⟩, ?_⟩)
  · rw [hlet]; exact Rep.leaf (by rw [hys]; unfold maxLen; omega)
  · rw [hlet]; exact HA.out.drop _ hle2
  · have hne2 : w2.heap.size ≠ br := by have := hr2.lt; omega
    exact (((((hr2.alloc _).below hb3).other hne2 _).other hne _).other hne _).other hne _
  · have k0 : Kept (· ≠ br) w w2 := ((((Kept.refl _ _).alloc _).trans hk1).drewN nq |>.setCell (by simp) _).trans hk2
    (have k9 : Kept (· ≠ br) w w3 := (k0.alloc _).trans (kept_of_below hb3 (fun _ h _ => h))); (exact (((k9.setCell (fun h => by simp at h; omega) _).setCell (fun h => by simp at h) _).setCell (fun h => by simp at h) _).setCell (fun h => by simp at h) _)

set_option maxHeartbeats 1000000 in
theorem name_bad (br : Nat) (t : ByteArray) (ht : t.size ≤ 20000) (n : Nat) (w : World) (a : Nat) (l : List UInt8) (ha : At t a l) (h : RS br w t a n) (hnm : isNm (letters (skipB l)) = false) :
    Calls Try.prog 143 #[.pointer (some ⟨br, 0, none⟩)] w fun e w' => ∃ a', e = .panicked (stopC 1 (a' : Nat)) ∧ At t a' (skipB l) ∧ Kept (· ≠ br) w w' := by
  (have hne : w.heap.size ≠ br := by have := h.lt; omega)
  go_enter Try.func143, Try.ntmps143
  go_wp2_with (go_at_call 84; refine (skip_any br t ht n _ a l ha (h.alloc _)).mono ?_; rintro e w1 ⟨rfl, ⟨a1, ha1, hr1⟩, hk1⟩); have f0 := hr1.c0; have f1 := hr1.c1; have f2 := hr1.fz 1; have hlen := ha1.len; (have hle : (a1 : Int) ≤ (t.size : Int) := by omega); (have hl1 : (t.size : Int) ≤ 20000 := by omega); have HA : Hid (At t a1 (skipB l)) := ha1; clear ha1 ha
  go_quiet (fail)
  have hle2 := letters_length (skipB l); have HS := HA.out.slice; generalize hx : t.extract a1 t.size = x at HS ⊢; (have hxs : x.size = (skipB l).length := by rw [← HS]; exact Array.length_toList.symm); (have hlc := letters_any x (by unfold maxLen; omega)); rw [HS] at hlc; have hsn := take_data x _ (letters (skipB l)).length HS; rw [← letters_prefix] at hsn; have HX : Hid (t.extract a1 t.size = x ∧ x.data.toList = skipB l) := ⟨hx, HS⟩; clear hx HS; (have b1 : ((letters (skipB l)).length : Int) ≤ (x.size : Int) := by omega)
  have hy0 : x.extract 0 (letters (skipB l)).length = ⟨(letters (skipB l)).toArray⟩ := by
    apply ByteArray.ext; apply Array.ext'; rw [hsn]
  (have hys : (⟨(letters (skipB l)).toArray⟩ : ByteArray).size = (letters (skipB l)).length := by simp [ByteArray.size]); clear hsn; (have hin := isName_any ⟨(letters (skipB l)).toArray⟩ (by unfold maxLen; omega)); rw [show (⟨(letters (skipB l)).toArray⟩ : ByteArray).data.toList = letters (skipB l) from rfl, hnm] at hin; generalize hlet : letters (skipB l) = lt at *
  go_wp2_with (first
    | (go_at_call 91; refine (hlc _).mono ?_; rintro e w2 ⟨rfl, rfl⟩)
    | (go_at_call 60; refine (hin _).mono ?_; rintro e w2 ⟨rfl, rfl⟩)
    | (go_at_call 78; refine (stop_any _ _ _).mono ?_; rintro e w3 ⟨rfl, rfl⟩)
    | fail)
  exact ⟨rfl, a1, rfl, HA.out, (((Kept.refl _ _).alloc _).trans hk1).drewN nq⟩
end Go.Proofs.Ytffkoiemnchdgaa
