/- Texts of one proof, one behind the other: Walk4. -/
import Derived.Test.YtfhbpfgbnfcdaaaB03
import Derived.Deep.RegionHeld3
/- Walks: a reader's 'not', way by way. -/
namespace Go.Proofs.Ytfhbpfgbnfcdaaa
open Go.RowKit

theorem Rep.one {w : World} {ok : Nat → Prop} {k : Int} {f : Fm} {b : Nat} {c0 c1 c2 : Value} {T : TypeId} (hb : w.heap[b]? = some (.cells #[c0, c1, c2] T (0, 0))) (hok : ok b) (hr : Rep w ok f (.agg #[c0, c1, c2])) :
    Rep w ok (.mk k e0 [f]) (.agg #[.int .i64 k, .string ⟨#[]⟩, .slice (some ⟨b, 0, none⟩) 1 1]) := by
  obtain ⟨g0, g1, g2, _⟩ := blk3 hb; (exact Rep.def.2 ⟨_, 1, rfl, by decide, by simp, by simp [maxLen], fun _ => ⟨b, 0, rfl, hok, Reps.cons.2 ⟨⟨c0, c1, c2, g0, g1, g2, hr⟩, Reps.nil⟩⟩⟩)
theorem Rep.two {w : World} {ok : Nat → Prop} {k : Int} {f g : Fm} {b : Nat} {c0 c1 c2 d0 d1 d2 : Value} {T : TypeId} (hb : w.heap[b]? = some (.cells #[c0, c1, c2, d0, d1, d2] T (0, 0))) (hok : ok b) (hr : Rep w ok f (.agg #[c0, c1, c2])) (hr2 : Rep w ok g (.agg #[d0, d1, d2])) :
    Rep w ok (.mk k e0 [f, g]) (.agg #[.int .i64 k, .string ⟨#[]⟩, .slice (some ⟨b, 0, none⟩) 2 2]) := by
  (exact Rep.def.2 ⟨_, 2, rfl, by decide, by simp, by simp [maxLen], fun _ => ⟨b, 0, rfl, hok, Reps.cons.2 ⟨⟨c0, c1, c2, blk_cell hb 0, blk_cell hb 1, blk_cell hb 2, hr⟩, Reps.cons.2 ⟨⟨d0, d1, d2, blk_cell hb 3, blk_cell hb 4, blk_cell hb 5, hr2⟩, Reps.nil⟩⟩⟩⟩)

theorem Rep.move {w w' : World} {ok ok' : Nat → Prop} {f : Fm} {v : Value} (h : Rep w ok f v) (hb : ∀ b, b < w.heap.size → ok b → w'.heap[b]? = w.heap[b]? ∧ ok' b) : Rep w' ok' f v :=
  Rep.keep (fun _ ha hlt => cell_of_block (hb _ hlt ha).1) (fun k h1 h2 => (hb k h1 h2).2) f v h

/-- What a reading of K leaves. -/
def RPost (K : Nat → List UInt8 → Option Res) (br : Nat) (t : ByteArray) (n : Nat) (l : List UInt8) (w : World) (e : Ending) (w' : World) : Prop :=
  Kept (· ≠ br) w w' ∧ ((∃ f r v a', Ev (K · l) (.ok f r) ∧ e = .returned v ∧ Rep w' (w.heap.size ≤ ·) f v ∧ At t a' r ∧ RS br w' t a' (n + f.size) ∧ f.size + r.length ≤ l.length) ∨ (∃ r a', Ev (K · l) (.bad r) ∧ e = .panicked (stopC 1 (a' : Nat)) ∧ At t a' r))

def Reads (K : Nat → List UInt8 → Option Res) (fid : Nat) (t : ByteArray) (m : Nat) : Prop :=
  ∀ (br n a : Nat) (l : List UInt8) (w : World), At t a l → RS br w t a n → n + l.length ≤ 20000 → l.length < m → Calls Try.prog fid #[.pointer (some ⟨br, 0, none⟩)] w (RPost K br t n l w)

theorem Reads.ok {K : Nat → List UInt8 → Option Res} {fid : Nat} {t : ByteArray} {m : Nat} (hR : Reads K fid t m) {f : Fm} {r : List UInt8} (br n a : Nat) (l : List UInt8) (w : World) (ha : At t a l) (hr : RS br w t a n) (hn : n + l.length ≤ 20000) (hm : l.length < m) (hev : Ev (K · l) (.ok f r)) :
    Calls Try.prog fid #[.pointer (some ⟨br, 0, none⟩)] w fun e w' => Kept (· ≠ br) w w' ∧ ∃ v a', e = .returned v ∧ Rep w' (w.heap.size ≤ ·) f v ∧ At t a' r ∧ RS br w' t a' (n + f.size) ∧ f.size + r.length ≤ l.length := by
  refine (hR br n a l w ha hr hn hm).mono ?_; rintro e w' ⟨hk, ⟨f', r', v, a', hev', he, h1, h2, h3, h4⟩ | ⟨r', a', hev', he, h1⟩⟩
  · obtain ⟨rfl, rfl⟩ := Res.ok.inj (hev.unique hev')
    exact ⟨hk, v, a', he, h1, h2, h3, h4⟩
  · cases hev.unique hev'
theorem Reads.bad {K : Nat → List UInt8 → Option Res} {fid : Nat} {t : ByteArray} {m : Nat} (hR : Reads K fid t m) {r : List UInt8} (br n a : Nat) (l : List UInt8) (w : World) (ha : At t a l) (hr : RS br w t a n) (hn : n + l.length ≤ 20000) (hm : l.length < m) (hev : Ev (K · l) (.bad r)) :
    Calls Try.prog fid #[.pointer (some ⟨br, 0, none⟩)] w fun e w' => Kept (· ≠ br) w w' ∧ ∃ a', e = .panicked (stopC 1 (a' : Nat)) ∧ At t a' r := by
  refine (hR br n a l w ha hr hn hm).mono ?_; rintro e w' ⟨hk, ⟨f', r', v, a', hev', he, h1, h2, h3, h4⟩ | ⟨r', a', hev', he, h1⟩⟩
  · cases hev.unique hev'
  · cases hev.unique hev'
    exact ⟨hk, a', he, h1⟩

theorem rs_cast {br : Nat} {w : World} {t : ByteArray} {a n m : Nat} (h : RS br w t a n) (e : n = m) : RS br w t a m := e ▸ h

set_option maxHeartbeats 1000000 in
theorem not_way1 (br : Nat) (t : ByteArray) (ht : t.size ≤ 20000) (n : Nat) (w : World) (a m : Nat) (l r : List UInt8) (ha : At t a l) (h : RS br w t a n) (hn : n + l.length ≤ 20000) (hm : r.length < m) (ih : Reads mNot 140 t m) (t1 : takeS [126] l = some r) :
    Calls Try.prog 140 #[.pointer (some ⟨br, 0, none⟩)] w (RPost mNot br t n l w) := by
  (have hne : w.heap.size ≠ br := by have := h.lt; omega); have hll := takeS_len t1; simp at hll
  go_enter Try.func140, Try.ntmps140
  go_wp2_with (first
    | (go_at_call_of 108 (Value.string ⟨#[126]⟩)
       (refine (take_yes br t ⟨#[126]⟩ ht (by decide) n _ a l r ha (h.alloc _) t1).mono ?_); rintro e w1 ⟨rfl, ⟨a1, ha1, hr1⟩, hk0⟩; have hk1 := hk0
       clear hk0)
    | (go_at_call 140
       (refine (ih br n a1 r w1 ha1 hr1 (by omega) hm).mono ?_); rintro e w2 ⟨hk2, ⟨⟨k, nm, ks⟩, r2, v, a2, hev, rfl, hrep, ha2, hr2, hb2⟩ | ⟨r2, a2, hev, rfl, ha2⟩⟩
       all_goals try (obtain ⟨sl, cap, rfl, hx1, hx2, hx3, hx4⟩ := Rep.def.1 hrep; clear hx4))
    | (go_at_call 109
       (refine (node_any br 4 t a2 _ _ 1 1 _ (hr2.alloc _) (by omega)).mono ?_); rintro e w3 ⟨rfl, hr3, hk3⟩
       have q2 : w3.heap[w.heap.size]? = some (.cells #[.int .i64 0, .string ⟨#[]⟩, .slice none 0 0] 24 (0, 0)) := by
         have z1 := hk1.size; have z2 := hk2.size; simp at z1; (rw [hk3.block _ (by simp; omega) hne, Below.heap_alloc _ _ _ (by omega), hk2.block _ (by omega) hne]); (exact (hk1.block _ (by simp) hne).trans (blk_new _ _))
       obtain ⟨k1, k2, k3, k4, k5, k6⟩ := blk3 q2)
    | fail)
  · have hn2 : w2.heap.size ≠ br := by have := hr2.lt; omega
    have K : Kept (· ≠ br) w2 w3 := ((Kept.refl _ _).alloc _).trans hk3; (have z : w3.heap[w2.heap.size]? = some (.cells #[.int .i64 k, .string nm, .slice sl ks.length cap] 24 (0, 0)) := (hk3.block _ (by simp) hn2).trans (blk_new _ _)); have z1 := lt_of_block q2; have z2 := hk1.size; have z3 := hk2.size; simp at z2; have K2 : Kept (· ≠ br) w w3 := (((Kept.refl _ _).alloc _).trans hk1).trans (hk2.trans K); have z4 := h.lt; (refine bodyPost_ret (v := .agg #[.int .i64 4, .string ⟨#[]⟩, .slice (some ⟨w2.heap.size, 0, none⟩) 1 1]) (by simp [results, Try.results140, go_sem, k1, k2, k3]) rfl ⟨?_, Or.inl ⟨.mk 4 e0 [.mk k nm ks], r2, _, a2, ev_not1 t1 hev, rfl, ?_, ha2, ?_, ?_⟩⟩)
    · exact ((K2.setCell (fun h => by simp at h) _).setCell (fun h => by simp at h) _).setCell (fun h => by simp at h) _
    · refine Rep.one (T := 24) (c0 := .int .i64 k) (c1 := .string nm) (c2 := .slice sl ks.length cap) ?_ (by omega) ?_
      · rw [Below.heap_setCell _ _ _ _ (by simp; omega), Below.heap_setCell _ _ _ _ (by simp; omega), Below.heap_setCell _ _ _ _ (by simp; omega)]; exact z
      · refine hrep.move fun b hb1 hb2 => ⟨?_, by omega⟩
        (rw [Below.heap_setCell _ _ _ _ (by simp; omega), Below.heap_setCell _ _ _ _ (by simp; omega), Below.heap_setCell _ _ _ _ (by simp; omega)]); (exact K.block b hb1 (by omega))
    · exact (rs_cast hr3 (by rw [size_one]; omega)).other hne _ |>.other hne _ |>.other hne _
    · rw [size_one]; omega
  · exact ⟨rfl, (((Kept.refl _ _).alloc _).trans hk1).trans hk2, Or.inr ⟨r2, a2, ev_not1 t1 hev, rfl, ha2⟩⟩

set_option maxHeartbeats 1000000 in
theorem not_way2 (br : Nat) (t : ByteArray) (ht : t.size ≤ 20000) (n : Nat) (w : World) (a m : Nat) (l r : List UInt8) (ha : At t a l) (h : RS br w t a n) (hn : n + l.length ≤ 20000) (hm : r.length < m) (ih : Reads mNot 140 t m) (t1 : takeS [126] l = none) (t2 : takeS [91, 93] l = some r) :
    Calls Try.prog 140 #[.pointer (some ⟨br, 0, none⟩)] w (RPost mNot br t n l w) := by
  (have hne : w.heap.size ≠ br := by have := h.lt; omega); have hll := takeS_len t2; simp at hll
  go_enter Try.func140, Try.ntmps140
  go_wp2_with (first
    | (go_at_call_of 108 (Value.string ⟨#[126]⟩)
       refine (take_no br t ⟨#[126]⟩ ht n _ a l ha (h.alloc _) t1).mono ?_
       rintro e u1 ⟨rfl, ⟨b1, hb1, hs1⟩, hq1⟩)
    | (go_at_call_of 108 (Value.string ⟨#[91, 93]⟩)
       (refine (take_yes br t ⟨#[91, 93]⟩ ht (by decide) n _ b1 (skipB l) r hb1 hs1 (by rw [takeS_skip]; exact t2)).mono ?_); rintro e w1 ⟨rfl, ⟨a1, ha1, hr1⟩, hk0⟩; have hk1 := hq1.trans (hk0)
       clear hk0)
    | (go_at_call 140
       (refine (ih br n a1 r w1 ha1 hr1 (by omega) hm).mono ?_); rintro e w2 ⟨hk2, ⟨⟨k, nm, ks⟩, r2, v, a2, hev, rfl, hrep, ha2, hr2, hb2⟩ | ⟨r2, a2, hev, rfl, ha2⟩⟩
       all_goals try (obtain ⟨sl, cap, rfl, hx1, hx2, hx3, hx4⟩ := Rep.def.1 hrep; clear hx4))
    | (go_at_call 109
       (refine (node_any br 8 t a2 _ _ 1 1 _ (hr2.alloc _) (by omega)).mono ?_); rintro e w3 ⟨rfl, hr3, hk3⟩
       have q2 : w3.heap[w.heap.size]? = some (.cells #[.int .i64 0, .string ⟨#[]⟩, .slice none 0 0] 24 (0, 0)) := by
         have z1 := hk1.size; have z2 := hk2.size; simp at z1; (rw [hk3.block _ (by simp; omega) hne, Below.heap_alloc _ _ _ (by omega), hk2.block _ (by omega) hne]); (exact (hk1.block _ (by simp) hne).trans (blk_new _ _))
       obtain ⟨k1, k2, k3, k4, k5, k6⟩ := blk3 q2)
    | fail)
  · have hn2 : w2.heap.size ≠ br := by have := hr2.lt; omega
    have K : Kept (· ≠ br) w2 w3 := ((Kept.refl _ _).alloc _).trans hk3; (have z : w3.heap[w2.heap.size]? = some (.cells #[.int .i64 k, .string nm, .slice sl ks.length cap] 24 (0, 0)) := (hk3.block _ (by simp) hn2).trans (blk_new _ _)); have z1 := lt_of_block q2; have z2 := hk1.size; have z3 := hk2.size; simp at z2; have K2 : Kept (· ≠ br) w w3 := (((Kept.refl _ _).alloc _).trans hk1).trans (hk2.trans K); have z4 := h.lt; (refine bodyPost_ret (v := .agg #[.int .i64 8, .string ⟨#[]⟩, .slice (some ⟨w2.heap.size, 0, none⟩) 1 1]) (by simp [results, Try.results140, go_sem, k1, k2, k3]) rfl ⟨?_, Or.inl ⟨.mk 8 e0 [.mk k nm ks], r2, _, a2, ev_not2 t1 t2 hev, rfl, ?_, ha2, ?_, ?_⟩⟩)
    · exact ((K2.setCell (fun h => by simp at h) _).setCell (fun h => by simp at h) _).setCell (fun h => by simp at h) _
    · refine Rep.one (T := 24) (c0 := .int .i64 k) (c1 := .string nm) (c2 := .slice sl ks.length cap) ?_ (by omega) ?_
      · rw [Below.heap_setCell _ _ _ _ (by simp; omega), Below.heap_setCell _ _ _ _ (by simp; omega), Below.heap_setCell _ _ _ _ (by simp; omega)]; exact z
      · refine hrep.move fun b hb1 hb2 => ⟨?_, by omega⟩
        (rw [Below.heap_setCell _ _ _ _ (by simp; omega), Below.heap_setCell _ _ _ _ (by simp; omega), Below.heap_setCell _ _ _ _ (by simp; omega)]); (exact K.block b hb1 (by omega))
    · exact (rs_cast hr3 (by rw [size_one]; omega)).other hne _ |>.other hne _ |>.other hne _
    · rw [size_one]; omega
  · exact ⟨rfl, (((Kept.refl _ _).alloc _).trans hk1).trans hk2, Or.inr ⟨r2, a2, ev_not2 t1 t2 hev, rfl, ha2⟩⟩

set_option maxHeartbeats 1000000 in
theorem not_way3 (br : Nat) (t : ByteArray) (ht : t.size ≤ 20000) (n : Nat) (w : World) (a m : Nat) (l r : List UInt8) (ha : At t a l) (h : RS br w t a n) (hn : n + l.length ≤ 20000) (hm : r.length < m) (ih : Reads mNot 140 t m) (t1 : takeS [126] l = none) (t2 : takeS [91, 93] l = none) (t3 : takeS [60, 62] l = some r) :
    Calls Try.prog 140 #[.pointer (some ⟨br, 0, none⟩)] w (RPost mNot br t n l w) := by
  (have hne : w.heap.size ≠ br := by have := h.lt; omega); have hll := takeS_len t3; simp at hll
  go_enter Try.func140, Try.ntmps140
  go_wp2_with (first
    | (go_at_call_of 108 (Value.string ⟨#[126]⟩)
       refine (take_no br t ⟨#[126]⟩ ht n _ a l ha (h.alloc _) t1).mono ?_
       rintro e u1 ⟨rfl, ⟨b1, hb1, hs1⟩, hq1⟩)
    | (go_at_call_of 108 (Value.string ⟨#[91, 93]⟩)
       (refine (take_no br t ⟨#[91, 93]⟩ ht n _ b1 (skipB l) hb1 hs1 (by rw [takeS_skip]; exact t2)).mono ?_); rintro e u2 ⟨rfl, ⟨b2, hb2, hs2⟩, hq2⟩
       rw [skipB_idem] at hb2)
    | (go_at_call_of 108 (Value.string ⟨#[60, 62]⟩)
       (refine (take_yes br t ⟨#[60, 62]⟩ ht (by decide) n _ b2 (skipB l) r hb2 hs2 (by rw [takeS_skip]; exact t3)).mono ?_); rintro e w1 ⟨rfl, ⟨a1, ha1, hr1⟩, hk0⟩; have hk1 := hq1.trans (hq2.trans (hk0))
       clear hk0)
    | (go_at_call 140
       (refine (ih br n a1 r w1 ha1 hr1 (by omega) hm).mono ?_); rintro e w2 ⟨hk2, ⟨⟨k, nm, ks⟩, r2, v, a2, hev, rfl, hrep, ha2, hr2, hb2⟩ | ⟨r2, a2, hev, rfl, ha2⟩⟩
       all_goals try (obtain ⟨sl, cap, rfl, hx1, hx2, hx3, hx4⟩ := Rep.def.1 hrep; clear hx4))
    | (go_at_call 109
       (refine (node_any br 9 t a2 _ _ 1 1 _ (hr2.alloc _) (by omega)).mono ?_); rintro e w3 ⟨rfl, hr3, hk3⟩
       have q2 : w3.heap[w.heap.size]? = some (.cells #[.int .i64 0, .string ⟨#[]⟩, .slice none 0 0] 24 (0, 0)) := by
         have z1 := hk1.size; have z2 := hk2.size; simp at z1; (rw [hk3.block _ (by simp; omega) hne, Below.heap_alloc _ _ _ (by omega), hk2.block _ (by omega) hne]); (exact (hk1.block _ (by simp) hne).trans (blk_new _ _))
       obtain ⟨k1, k2, k3, k4, k5, k6⟩ := blk3 q2)
    | fail)
  · have hn2 : w2.heap.size ≠ br := by have := hr2.lt; omega
    have K : Kept (· ≠ br) w2 w3 := ((Kept.refl _ _).alloc _).trans hk3; (have z : w3.heap[w2.heap.size]? = some (.cells #[.int .i64 k, .string nm, .slice sl ks.length cap] 24 (0, 0)) := (hk3.block _ (by simp) hn2).trans (blk_new _ _)); have z1 := lt_of_block q2; have z2 := hk1.size; have z3 := hk2.size; simp at z2; have K2 : Kept (· ≠ br) w w3 := (((Kept.refl _ _).alloc _).trans hk1).trans (hk2.trans K); have z4 := h.lt; (refine bodyPost_ret (v := .agg #[.int .i64 9, .string ⟨#[]⟩, .slice (some ⟨w2.heap.size, 0, none⟩) 1 1]) (by simp [results, Try.results140, go_sem, k1, k2, k3]) rfl ⟨?_, Or.inl ⟨.mk 9 e0 [.mk k nm ks], r2, _, a2, ev_not3 t1 t2 t3 hev, rfl, ?_, ha2, ?_, ?_⟩⟩)
    · exact ((K2.setCell (fun h => by simp at h) _).setCell (fun h => by simp at h) _).setCell (fun h => by simp at h) _
    · refine Rep.one (T := 24) (c0 := .int .i64 k) (c1 := .string nm) (c2 := .slice sl ks.length cap) ?_ (by omega) ?_
      · rw [Below.heap_setCell _ _ _ _ (by simp; omega), Below.heap_setCell _ _ _ _ (by simp; omega), Below.heap_setCell _ _ _ _ (by simp; omega)]; exact z
      · refine hrep.move fun b hb1 hb2 => ⟨?_, by omega⟩
        (rw [Below.heap_setCell _ _ _ _ (by simp; omega), Below.heap_setCell _ _ _ _ (by simp; omega), Below.heap_setCell _ _ _ _ (by simp; omega)]); (exact K.block b hb1 (by omega))
    · exact (rs_cast hr3 (by rw [size_one]; omega)).other hne _ |>.other hne _ |>.other hne _
    · rw [size_one]; omega
  · exact ⟨rfl, (((Kept.refl _ _).alloc _).trans hk1).trans hk2, Or.inr ⟨r2, a2, ev_not3 t1 t2 t3 hev, rfl, ha2⟩⟩

set_option maxHeartbeats 1000000 in
theorem not_way4 (br : Nat) (t : ByteArray) (ht : t.size ≤ 20000) (n : Nat) (w : World) (a m : Nat) (l r : List UInt8) (ha : At t a l) (h : RS br w t a n) (hn : n + l.length ≤ 20000) (hm : r.length < m) (ih : Reads mThen 83 t m) (t1 : takeS [126] l = none) (t2 : takeS [91, 93] l = none) (t3 : takeS [60, 62] l = none) (t4 : takeS [40] l = some r) :
    Calls Try.prog 140 #[.pointer (some ⟨br, 0, none⟩)] w (RPost mNot br t n l w) := by
  (have hne : w.heap.size ≠ br := by have := h.lt; omega); have hll := takeS_len t4; simp at hll
  go_enter Try.func140, Try.ntmps140
  go_wp2_with (first
    | (go_at_call_of 108 (Value.string ⟨#[126]⟩)
       refine (take_no br t ⟨#[126]⟩ ht n _ a l ha (h.alloc _) t1).mono ?_
       rintro e u1 ⟨rfl, ⟨b1, hb1, hs1⟩, hq1⟩)
    | (go_at_call_of 108 (Value.string ⟨#[91, 93]⟩)
       (refine (take_no br t ⟨#[91, 93]⟩ ht n _ b1 (skipB l) hb1 hs1 (by rw [takeS_skip]; exact t2)).mono ?_); rintro e u2 ⟨rfl, ⟨b2, hb2, hs2⟩, hq2⟩
       rw [skipB_idem] at hb2)
    | (go_at_call_of 108 (Value.string ⟨#[60, 62]⟩)
       (refine (take_no br t ⟨#[60, 62]⟩ ht n _ b2 (skipB l) hb2 hs2 (by rw [takeS_skip]; exact t3)).mono ?_); rintro e u3 ⟨rfl, ⟨b3, hb3, hs3⟩, hq3⟩
       rw [skipB_idem] at hb3)
    | (go_at_call_of 108 (Value.string ⟨#[40]⟩)
       (refine (take_yes br t ⟨#[40]⟩ ht (by decide) n _ b3 (skipB l) r hb3 hs3 (by rw [takeS_skip]; exact t4)).mono ?_); rintro e w1 ⟨rfl, ⟨a1, ha1, hr1⟩, hk0⟩; have hk1 := hq1.trans (hq2.trans (hq3.trans (hk0)))
       clear hk0)
    | (go_at_call 83
       (refine (ih br n a1 r w1 ha1 hr1 (by omega) hm).mono ?_); rintro e w2 ⟨hk2, ⟨⟨k, nm, ks⟩, r2, v, a2, hev, rfl, hrep, ha2, hr2, hb2⟩ | ⟨r2, a2, hev, rfl, ha2⟩⟩
       all_goals try (obtain ⟨sl, cap, rfl, hx1, hx2, hx3, hx4⟩ := Rep.def.1 hrep; clear hx4; rcases hcl : takeS [41] r2 with _ | r3))
    | (go_at_call_of 108 (Value.string ⟨#[41]⟩)
       (refine (take_yes br t ⟨#[41]⟩ ht (by decide) _ _ a2 r2 r3 ha2 (hr2.alloc _) hcl).mono ?_); rintro e w3 ⟨rfl, ⟨a3, ha3, hr3⟩, hk3⟩; (have hn2 : w2.heap.size ≠ br := by have := hr2.lt; omega)
       have q2 : w3.heap[w.heap.size]? = some (.cells #[.int .i64 0, .string ⟨#[]⟩, .slice none 0 0] 24 (0, 0)) := by
         have z1 := hk1.size; have z2 := hk2.size; simp at z1; (rw [hk3.block _ (by simp; omega) hne, Below.heap_alloc _ _ _ (by omega), hk2.block _ (by omega) hne]); (exact (hk1.block _ (by simp) hne).trans (blk_new _ _))
       (have q3 : w3.heap[w2.heap.size]? = some (.cells #[.int .i64 k, .string nm, .slice sl ks.length cap] 24 (0, 0)) := (hk3.block _ (by simp) hn2).trans (blk_new _ _)); obtain ⟨k1, k2, k3, k4, k5, k6⟩ := blk3 q2
       obtain ⟨g1, g2, g3, g4, g5, g6⟩ := blk3 q3)
    | (go_at_call_of 108 (Value.string ⟨#[41]⟩)
       refine (take_no br t ⟨#[41]⟩ ht _ _ a2 r2 ha2 (hr2.alloc _) hcl).mono ?_; rintro e w3 ⟨rfl, ⟨a3, ha3, hr3⟩, hk3⟩
       have f1 := hr3.c1)
    | (go_at_call 78; refine (stop_any _ _ _).mono ?_; rintro e w4 ⟨rfl, rfl⟩)
    | fail)
  · exact ⟨rfl, ((((Kept.refl _ _).alloc _).trans hk1).trans (hk2.alloc _)).trans hk3, Or.inr ⟨skipB r2, a3, by have := ev_not4 t1 t2 t3 t4 hev; rwa [Res.shut, hcl] at this, rfl, ha3⟩⟩
  · have z1 := lt_of_block q2
    have z2 := hk1.size; have z3 := hk2.size; have z4 := h.lt; have z5 := takeS_len hcl; simp at z2 z5; have K2 : Kept (· ≠ br) w2 w3 := ((Kept.refl _ _).alloc _).trans hk3; have K : Kept (· ≠ br) w w3 := (((Kept.refl _ _).alloc _).trans hk1).trans (hk2.trans K2); (refine bodyPost_ret (v := .agg #[.int .i64 k, .string nm, .slice sl ks.length cap]) (by simp [results, Try.results140, go_sem, k1, k2, k3]) rfl ⟨?_, Or.inl ⟨.mk k nm ks, r3, _, a3, by have := ev_not4 t1 t2 t3 t4 hev; rwa [Res.shut, hcl] at this, rfl, ?_, ha3, ?_, by omega⟩⟩)
    · exact ((K.setCell (fun h => by simp at h) _).setCell (fun h => by simp at h) _).setCell (fun h => by simp at h) _
    · refine hrep.move fun b hb1 hb2 => ⟨?_, by omega⟩
      (rw [Below.heap_setCell _ _ _ _ (by simp; omega), Below.heap_setCell _ _ _ _ (by simp; omega), Below.heap_setCell _ _ _ _ (by simp; omega)]); (exact K2.block b hb1 (by omega))
    · exact hr3.other hne _ |>.other hne _ |>.other hne _
  · exact ⟨rfl, (((Kept.refl _ _).alloc _).trans hk1).trans hk2, Or.inr ⟨r2, a2, ev_not4 t1 t2 t3 t4 hev, rfl, ha2⟩⟩

set_option maxHeartbeats 1000000 in
theorem not_way5 (br : Nat) (t : ByteArray) (ht : t.size ≤ 20000) (n : Nat) (w : World) (a : Nat) (l r : List UInt8) (ha : At t a l) (h : RS br w t a n) (hn : n + l.length ≤ 20000) (t1 : takeS [126] l = none) (t2 : takeS [91, 93] l = none) (t3 : takeS [60, 62] l = none) (t4 : takeS [40] l = none) (t5 : takeS [49] l = some r) :
    Calls Try.prog 140 #[.pointer (some ⟨br, 0, none⟩)] w (RPost mNot br t n l w) := by
  (have hne : w.heap.size ≠ br := by have := h.lt; omega); have hll := takeS_len t5; simp at hll
  go_enter Try.func140, Try.ntmps140
  go_wp2_with (first
    | (go_at_call_of 108 (Value.string ⟨#[126]⟩)
       refine (take_no br t ⟨#[126]⟩ ht n _ a l ha (h.alloc _) t1).mono ?_
       rintro e u1 ⟨rfl, ⟨b1, hb1, hs1⟩, hq1⟩)
    | (go_at_call_of 108 (Value.string ⟨#[91, 93]⟩)
       (refine (take_no br t ⟨#[91, 93]⟩ ht n _ b1 (skipB l) hb1 hs1 (by rw [takeS_skip]; exact t2)).mono ?_); rintro e u2 ⟨rfl, ⟨b2, hb2, hs2⟩, hq2⟩
       rw [skipB_idem] at hb2)
    | (go_at_call_of 108 (Value.string ⟨#[60, 62]⟩)
       (refine (take_no br t ⟨#[60, 62]⟩ ht n _ b2 (skipB l) hb2 hs2 (by rw [takeS_skip]; exact t3)).mono ?_); rintro e u3 ⟨rfl, ⟨b3, hb3, hs3⟩, hq3⟩
       rw [skipB_idem] at hb3)
    | (go_at_call_of 108 (Value.string ⟨#[40]⟩)
       (refine (take_no br t ⟨#[40]⟩ ht n _ b3 (skipB l) hb3 hs3 (by rw [takeS_skip]; exact t4)).mono ?_); rintro e u4 ⟨rfl, ⟨b4, hb4, hs4⟩, hq4⟩
       rw [skipB_idem] at hb4)
    | (go_at_call_of 108 (Value.string ⟨#[49]⟩)
       (refine (take_yes br t ⟨#[49]⟩ ht (by decide) n _ b4 (skipB l) r hb4 hs4 (by rw [takeS_skip]; exact t5)).mono ?_); rintro e w1 ⟨rfl, ⟨a1, ha1, hr1⟩, hk0⟩; have hk1 := hq1.trans (hq2.trans (hq3.trans (hq4.trans (hk0))))
       clear hk0)
    | (go_at_call 109
       (refine (node_any br 2 t a1 n none 0 0 _ hr1 (by omega)).mono ?_); rintro e w3 ⟨rfl, hr3, hk3⟩
       have q2 : w3.heap[w.heap.size]? = some (.cells #[.int .i64 0, .string ⟨#[]⟩, .slice none 0 0] 24 (0, 0)) := by
         have z1 := hk1.size; simp at z1; (rw [hk3.block _ (by omega) hne]); (exact (hk1.block _ (by simp) hne).trans (blk_new _ _))
       obtain ⟨k1, k2, k3, k4, k5, k6⟩ := blk3 q2)
    | fail)
  have K : Kept (· ≠ br) w w3 := (((Kept.refl _ _).alloc _).trans hk1).trans hk3; (refine bodyPost_ret (v := .agg #[.int .i64 2, .string ⟨#[]⟩, .slice none 0 0]) (by simp [results, Try.results140, go_sem, k1, k2, k3]) rfl ⟨?_, Or.inl ⟨.mk 2 e0 [], r, _, a1, ev_not5 t1 t2 t3 t4 t5, rfl, Rep.leaf (by decide), ha1, ?_, by rw [size_leaf]; omega⟩⟩)
  · exact ((K.setCell (fun h => by simp at h) _).setCell (fun h => by simp at h) _).setCell (fun h => by simp at h) _
  · rw [size_leaf]; exact hr3.other hne _ |>.other hne _ |>.other hne _

set_option maxHeartbeats 1000000 in
theorem not_way6 (br : Nat) (t : ByteArray) (ht : t.size ≤ 20000) (n : Nat) (w : World) (a : Nat) (l r : List UInt8) (ha : At t a l) (h : RS br w t a n) (hn : n + l.length ≤ 20000) (t1 : takeS [126] l = none) (t2 : takeS [91, 93] l = none) (t3 : takeS [60, 62] l = none) (t4 : takeS [40] l = none) (t5 : takeS [49] l = none) (t6 : takeS [48] l = some r) :
    Calls Try.prog 140 #[.pointer (some ⟨br, 0, none⟩)] w (RPost mNot br t n l w) := by
  (have hne : w.heap.size ≠ br := by have := h.lt; omega); have hll := takeS_len t6; simp at hll
  go_enter Try.func140, Try.ntmps140
  go_wp2_with (first
    | (go_at_call_of 108 (Value.string ⟨#[126]⟩)
       refine (take_no br t ⟨#[126]⟩ ht n _ a l ha (h.alloc _) t1).mono ?_
       rintro e u1 ⟨rfl, ⟨b1, hb1, hs1⟩, hq1⟩)
    | (go_at_call_of 108 (Value.string ⟨#[91, 93]⟩)
       (refine (take_no br t ⟨#[91, 93]⟩ ht n _ b1 (skipB l) hb1 hs1 (by rw [takeS_skip]; exact t2)).mono ?_); rintro e u2 ⟨rfl, ⟨b2, hb2, hs2⟩, hq2⟩
       rw [skipB_idem] at hb2)
    | (go_at_call_of 108 (Value.string ⟨#[60, 62]⟩)
       (refine (take_no br t ⟨#[60, 62]⟩ ht n _ b2 (skipB l) hb2 hs2 (by rw [takeS_skip]; exact t3)).mono ?_); rintro e u3 ⟨rfl, ⟨b3, hb3, hs3⟩, hq3⟩
       rw [skipB_idem] at hb3)
    | (go_at_call_of 108 (Value.string ⟨#[40]⟩)
       (refine (take_no br t ⟨#[40]⟩ ht n _ b3 (skipB l) hb3 hs3 (by rw [takeS_skip]; exact t4)).mono ?_); rintro e u4 ⟨rfl, ⟨b4, hb4, hs4⟩, hq4⟩
       rw [skipB_idem] at hb4)
    | (go_at_call_of 108 (Value.string ⟨#[49]⟩)
       (refine (take_no br t ⟨#[49]⟩ ht n _ b4 (skipB l) hb4 hs4 (by rw [takeS_skip]; exact t5)).mono ?_); rintro e u5 ⟨rfl, ⟨b5, hb5, hs5⟩, hq5⟩
       rw [skipB_idem] at hb5)
    | (go_at_call_of 108 (Value.string ⟨#[48]⟩)
       (refine (take_yes br t ⟨#[48]⟩ ht (by decide) n _ b5 (skipB l) r hb5 hs5 (by rw [takeS_skip]; exact t6)).mono ?_); rintro e w1 ⟨rfl, ⟨a1, ha1, hr1⟩, hk0⟩; have hk1 := hq1.trans (hq2.trans (hq3.trans (hq4.trans (hq5.trans (hk0)))))
       clear hk0)
    | (go_at_call 109
       (refine (node_any br 3 t a1 n none 0 0 _ hr1 (by omega)).mono ?_); rintro e w3 ⟨rfl, hr3, hk3⟩
       have q2 : w3.heap[w.heap.size]? = some (.cells #[.int .i64 0, .string ⟨#[]⟩, .slice none 0 0] 24 (0, 0)) := by
         have z1 := hk1.size; simp at z1; (rw [hk3.block _ (by omega) hne]); (exact (hk1.block _ (by simp) hne).trans (blk_new _ _))
       obtain ⟨k1, k2, k3, k4, k5, k6⟩ := blk3 q2)
    | fail)
  have K : Kept (· ≠ br) w w3 := (((Kept.refl _ _).alloc _).trans hk1).trans hk3; (refine bodyPost_ret (v := .agg #[.int .i64 3, .string ⟨#[]⟩, .slice none 0 0]) (by simp [results, Try.results140, go_sem, k1, k2, k3]) rfl ⟨?_, Or.inl ⟨.mk 3 e0 [], r, _, a1, ev_not6 t1 t2 t3 t4 t5 t6, rfl, Rep.leaf (by decide), ha1, ?_, by rw [size_leaf]; omega⟩⟩)
  · exact ((K.setCell (fun h => by simp at h) _).setCell (fun h => by simp at h) _).setCell (fun h => by simp at h) _
  · rw [size_leaf]; exact hr3.other hne _ |>.other hne _ |>.other hne _

theorem mName_ok {l : List UInt8} (h : isNm (letters (skipB l)) = true) : mName l = .ok (nmF (letters (skipB l))) ((skipB l).drop (letters (skipB l)).length) := by
  simp only [mName, h, if_true]
theorem mName_bad {l : List UInt8} (h : isNm (letters (skipB l)) = false) : mName l = .bad (skipB l) := by
  simp [mName, h]
theorem isNm_pos {l : List UInt8} (h : isNm l = true) : 1 ≤ l.length := by
  cases l with
  | nil => simp [isNm] at h
  | cons c l => simp

set_option maxHeartbeats 1000000 in
theorem not_way7 (br : Nat) (t : ByteArray) (ht : t.size ≤ 20000) (n : Nat) (w : World) (a : Nat) (l : List UInt8) (ha : At t a l) (h : RS br w t a n) (hn : n + l.length ≤ 20000) (t1 : takeS [126] l = none) (t2 : takeS [91, 93] l = none) (t3 : takeS [60, 62] l = none) (t4 : takeS [40] l = none) (t5 : takeS [49] l = none) (t6 : takeS [48] l = none) :
    Calls Try.prog 140 #[.pointer (some ⟨br, 0, none⟩)] w (RPost mNot br t n l w) := by
  (have hne : w.heap.size ≠ br := by have := h.lt; omega); have hsl := skipB_length l
  rcases hnm : isNm (letters (skipB l)) with _ | _
  · go_enter Try.func140, Try.ntmps140
    go_wp2_with (first
    | (go_at_call_of 108 (Value.string ⟨#[126]⟩)
       refine (take_no br t ⟨#[126]⟩ ht n _ a l ha (h.alloc _) t1).mono ?_
       rintro e u1 ⟨rfl, ⟨b1, hb1, hs1⟩, hq1⟩)
    | (go_at_call_of 108 (Value.string ⟨#[91, 93]⟩)
       (refine (take_no br t ⟨#[91, 93]⟩ ht n _ b1 (skipB l) hb1 hs1 (by rw [takeS_skip]; exact t2)).mono ?_); rintro e u2 ⟨rfl, ⟨b2, hb2, hs2⟩, hq2⟩
       rw [skipB_idem] at hb2)
    | (go_at_call_of 108 (Value.string ⟨#[60, 62]⟩)
       (refine (take_no br t ⟨#[60, 62]⟩ ht n _ b2 (skipB l) hb2 hs2 (by rw [takeS_skip]; exact t3)).mono ?_); rintro e u3 ⟨rfl, ⟨b3, hb3, hs3⟩, hq3⟩
       rw [skipB_idem] at hb3)
    | (go_at_call_of 108 (Value.string ⟨#[40]⟩)
       (refine (take_no br t ⟨#[40]⟩ ht n _ b3 (skipB l) hb3 hs3 (by rw [takeS_skip]; exact t4)).mono ?_); rintro e u4 ⟨rfl, ⟨b4, hb4, hs4⟩, hq4⟩
       rw [skipB_idem] at hb4)
    | (go_at_call_of 108 (Value.string ⟨#[49]⟩)
       (refine (take_no br t ⟨#[49]⟩ ht n _ b4 (skipB l) hb4 hs4 (by rw [takeS_skip]; exact t5)).mono ?_); rintro e u5 ⟨rfl, ⟨b5, hb5, hs5⟩, hq5⟩
       rw [skipB_idem] at hb5)
    | (go_at_call_of 108 (Value.string ⟨#[48]⟩)
       (refine (take_no br t ⟨#[48]⟩ ht n _ b5 (skipB l) hb5 hs5 (by rw [takeS_skip]; exact t6)).mono ?_); rintro e u6 ⟨rfl, ⟨b6, hb6, hs6⟩, hq6⟩
       rw [skipB_idem] at hb6)
    | (go_at_call 143
       (refine (name_bad br t ht n _ b6 (skipB l) hb6 hs6 (by rw [skipB_idem]; exact hnm)).mono ?_); rintro e w1 ⟨a1, rfl, ha1, hk1⟩
       rw [skipB_idem] at ha1)
    | fail)
    (exact ⟨rfl, ((Kept.refl _ _).alloc _).trans (hq1.trans (hq2.trans (hq3.trans (hq4.trans (hq5.trans (hq6.trans hk1)))))), Or.inr ⟨skipB l, a1, by rw [← mName_bad hnm]; exact ev_not7 t1 t2 t3 t4 t5 t6, rfl, ha1⟩⟩)
  · go_enter Try.func140, Try.ntmps140
    go_wp2_with (first
    | (go_at_call_of 108 (Value.string ⟨#[126]⟩)
       refine (take_no br t ⟨#[126]⟩ ht n _ a l ha (h.alloc _) t1).mono ?_
       rintro e u1 ⟨rfl, ⟨b1, hb1, hs1⟩, hq1⟩)
    | (go_at_call_of 108 (Value.string ⟨#[91, 93]⟩)
       (refine (take_no br t ⟨#[91, 93]⟩ ht n _ b1 (skipB l) hb1 hs1 (by rw [takeS_skip]; exact t2)).mono ?_); rintro e u2 ⟨rfl, ⟨b2, hb2, hs2⟩, hq2⟩
       rw [skipB_idem] at hb2)
    | (go_at_call_of 108 (Value.string ⟨#[60, 62]⟩)
       (refine (take_no br t ⟨#[60, 62]⟩ ht n _ b2 (skipB l) hb2 hs2 (by rw [takeS_skip]; exact t3)).mono ?_); rintro e u3 ⟨rfl, ⟨b3, hb3, hs3⟩, hq3⟩
       rw [skipB_idem] at hb3)
    | (go_at_call_of 108 (Value.string ⟨#[40]⟩)
       (refine (take_no br t ⟨#[40]⟩ ht n _ b3 (skipB l) hb3 hs3 (by rw [takeS_skip]; exact t4)).mono ?_); rintro e u4 ⟨rfl, ⟨b4, hb4, hs4⟩, hq4⟩
       rw [skipB_idem] at hb4)
    | (go_at_call_of 108 (Value.string ⟨#[49]⟩)
       (refine (take_no br t ⟨#[49]⟩ ht n _ b4 (skipB l) hb4 hs4 (by rw [takeS_skip]; exact t5)).mono ?_); rintro e u5 ⟨rfl, ⟨b5, hb5, hs5⟩, hq5⟩
       rw [skipB_idem] at hb5)
    | (go_at_call_of 108 (Value.string ⟨#[48]⟩)
       (refine (take_no br t ⟨#[48]⟩ ht n _ b5 (skipB l) hb5 hs5 (by rw [takeS_skip]; exact t6)).mono ?_); rintro e u6 ⟨rfl, ⟨b6, hb6, hs6⟩, hq6⟩
       rw [skipB_idem] at hb6)
    | (go_at_call 143
       (refine (name_any br t ht n (by omega) _ b6 (skipB l) hb6 hs6 (by rw [skipB_idem]; exact hnm)).mono ?_); rintro e w1 ⟨v, rfl, hrep, ⟨a1, ha1, hr1⟩, hk1⟩; rw [skipB_idem] at ha1 hrep; obtain ⟨sl, cap, rfl, hx1, hx2, hx3, hx4⟩ := Rep.def.1 hrep; clear hx4; have K0 := hq1.trans (hq2.trans (hq3.trans (hq4.trans (hq5.trans (hq6.trans hk1))))); (have q2 : w1.heap[w.heap.size]? = some (.cells #[.int .i64 0, .string ⟨#[]⟩, .slice none 0 0] 24 (0, 0)) := (K0.block _ (by simp) hne).trans (blk_new _ _))
       obtain ⟨k1, k2, k3, k4, k5, k6⟩ := blk3 q2)
    | fail)
    have K : Kept (· ≠ br) w w1 := ((Kept.refl _ _).alloc _).trans K0; have hl1 := letters_length (skipB l); have hl2 := isNm_pos hnm; (refine bodyPost_ret (v := .agg #[.int .i64 1, .string ⟨(letters (skipB l)).toArray⟩, .slice sl 0 cap]) (by simp [results, Try.results140, go_sem, k1, k2, k3]) rfl ⟨?_, Or.inl ⟨nmF (letters (skipB l)), _, _, a1, by rw [← mName_ok hnm]; exact ev_not7 t1 t2 t3 t4 t5 t6, rfl, ?_, ha1, ?_, ?_⟩⟩)
    · exact ((K.setCell (fun h => by simp at h) _).setCell (fun h => by simp at h) _).setCell (fun h => by simp at h) _
    · exact Rep.def.2 ⟨sl, cap, rfl, hx1, hx2, hx3, fun h => absurd rfl h⟩
    · rw [nmF, size_leaf]; exact hr1.other hne _ |>.other hne _ |>.other hne _
    · rw [nmF, size_leaf, List.length_drop]; omega

theorem not_step (t : ByteArray) (ht : t.size ≤ 20000) (m : Nat) (ihN : Reads mNot 140 t m) (ihT : Reads mThen 83 t m) : Reads mNot 140 t (m + 1) := by
  intro br n a l w ha h hn hm
  rcases t1 : takeS [126] l with _ | r
  · rcases t2 : takeS [91, 93] l with _ | r
    · rcases t3 : takeS [60, 62] l with _ | r
      · rcases t4 : takeS [40] l with _ | r
        · rcases t5 : takeS [49] l with _ | r
          · rcases t6 : takeS [48] l with _ | r
            · exact not_way7 br t ht n w a l ha h hn t1 t2 t3 t4 t5 t6
            · exact not_way6 br t ht n w a l r ha h hn t1 t2 t3 t4 t5 t6
          · exact not_way5 br t ht n w a l r ha h hn t1 t2 t3 t4 t5
        · exact not_way4 br t ht n w a m l r ha h hn (by have := takeS_len t4; simp at this; omega) ihT t1 t2 t3 t4
      · exact not_way3 br t ht n w a m l r ha h hn (by have := takeS_len t3; simp at this; omega) ihN t1 t2 t3
    · exact not_way2 br t ht n w a m l r ha h hn (by have := takeS_len t2; simp at this; omega) ihN t1 t2
  · exact not_way1 br t ht n w a m l r ha h hn (by have := takeS_len t1; simp at this; omega) ihN t1
end Go.Proofs.Ytfhbpfgbnfcdaaa
