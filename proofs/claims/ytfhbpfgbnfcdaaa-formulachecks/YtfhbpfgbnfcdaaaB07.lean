/- Texts of one proof, one behind the other: Walk5, Walk6. -/
import Derived.Test.YtfhbpfgbnfcdaaaB05
/- Walks: a reader's 'then', 'or', 'and'. -/
namespace Go.Proofs.Ytfhbpfgbnfcdaaa
open Go.RowKit

set_option maxHeartbeats 1000000 in
theorem then_step (t : ByteArray) (ht : t.size ≤ 20000) (m : Nat) (ihO : Reads mOr 107 t (m + 1)) (ihT : Reads mThen 83 t m) : Reads mThen 83 t (m + 1) := by
  intro br n a l w ha h hn hm; (have hne : w.heap.size ≠ br := by have := h.lt; omega)
  go_enter Try.func83, Try.ntmps83
  go_wp2_with (first
    | (go_at_call 107
       refine (ihO br n a l _ ha (h.alloc _) hn hm).mono ?_; rintro e w1 ⟨hk1, ⟨⟨k, nm, ks⟩, r1, v, a1, hev, rfl, hrep, ha1, hr1, hb1⟩ | ⟨r1, a1, hev, rfl, ha1⟩⟩
       all_goals try (obtain ⟨sl, cap, rfl, hx1, hx2, hx3, hx4⟩ := Rep.def.1 hrep; clear hx4; rcases hcl : takeS [45, 62] r1 with _ | r2))
    | (go_at_call_of 108 (Value.string ⟨#[45, 62]⟩)
       (refine (take_yes br t ⟨#[45, 62]⟩ ht (by decide) _ _ a1 r1 r2 ha1 (hr1.alloc _) hcl).mono ?_); rintro e w2 ⟨rfl, ⟨a2, ha2, hr2⟩, hk2⟩; (have hn1 : w1.heap.size ≠ br := by have := hr1.lt; omega)
       have q2 : w2.heap[w.heap.size]? = some (.cells #[.int .i64 0, .string ⟨#[]⟩, .slice none 0 0] 24 (0, 0)) := by
         have z1 := hk1.size; simp at z1; (rw [hk2.block _ (by simp; omega) hne, Below.heap_alloc _ _ _ (by omega)]); (exact (hk1.block _ (by simp) hne).trans (blk_new _ _))
       have q3 : w2.heap[w1.heap.size]? = some (.cells #[.int .i64 k, .string nm, .slice sl ks.length cap] 24 (0, 0)) := (hk2.block _ (by simp) hn1).trans (blk_new _ _))
    | (go_at_call_of 108 (Value.string ⟨#[45, 62]⟩)
       refine (take_no br t ⟨#[45, 62]⟩ ht _ _ a1 r1 ha1 (hr1.alloc _) hcl).mono ?_; rintro e w2 ⟨rfl, ⟨a2, ha2, hr2⟩, hk2⟩; (have hn1 : w1.heap.size ≠ br := by have := hr1.lt; omega)
       have q2 : w2.heap[w.heap.size]? = some (.cells #[.int .i64 0, .string ⟨#[]⟩, .slice none 0 0] 24 (0, 0)) := by
         have z1 := hk1.size; simp at z1; (rw [hk2.block _ (by simp; omega) hne, Below.heap_alloc _ _ _ (by omega)]); (exact (hk1.block _ (by simp) hne).trans (blk_new _ _))
       (have q3 : w2.heap[w1.heap.size]? = some (.cells #[.int .i64 k, .string nm, .slice sl ks.length cap] 24 (0, 0)) := (hk2.block _ (by simp) hn1).trans (blk_new _ _)); obtain ⟨k1, k2, k3, k4, k5, k6⟩ := blk3 q2
       obtain ⟨g1, g2, g3, g4, g5, g6⟩ := blk3 q3)
    | fail)
  · have z1 := lt_of_block q2
    have z2 := hk1.size; have z4 := h.lt; have z5 := skipB_length r1; simp at z2; have K2 : Kept (· ≠ br) w1 w2 := ((Kept.refl _ _).alloc _).trans hk2; have K : Kept (· ≠ br) w w2 := (((Kept.refl _ _).alloc _).trans hk1).trans K2; (refine bodyPost_ret (v := .agg #[.int .i64 k, .string nm, .slice sl ks.length cap]) (by simp [results, Try.results83, go_sem, k1, k2, k3]) rfl ⟨?_, Or.inl ⟨.mk k nm ks, skipB r1, _, a2, ev_then_no hev hcl, rfl, ?_, ha2, ?_, by omega⟩⟩)
    · exact ((K.setCell (fun h => by simp at h) _).setCell (fun h => by simp at h) _).setCell (fun h => by simp at h) _
    · refine hrep.move fun b hb1 hb2 => ⟨?_, by simp at hb2; omega⟩
      simp at hb2; (rw [Below.heap_setCell _ _ _ _ (by simp; omega), Below.heap_setCell _ _ _ _ (by simp; omega), Below.heap_setCell _ _ _ _ (by simp; omega)]); (exact K2.block b hb1 (by omega))
    · exact hr2.other hne _ |>.other hne _ |>.other hne _
  · have hll := takeS_len hcl
    simp at hll; have z1 := hk1.size; simp at z1; have z2 := lt_of_block q2; have z3 := lt_of_block q3; obtain ⟨k1, k2, k3, k4, k5, k6⟩ := blk3 q2; obtain ⟨g1, g2, g3, g4, g5, g6⟩ := blk3 q3; (have d1 : ¬ w.heap.size = w1.heap.size := by omega); (have d2 : ¬ w1.heap.size = w.heap.size := by omega); have KK : Kept (· ≠ br) w w2.drew := ((((Kept.refl _ _).alloc _).trans hk1).trans (((Kept.refl _ _).alloc _).trans hk2)).drew; obtain ⟨x, hx, -⟩ := (tot_all r2.length).2 r2 (Nat.le_refl _)
    cases x with
    | bad r3 =>
      (refine wp_region_any (by kernel_rfl) ?_)
      change wpAny _ _ _ _ _ _ _ (World.drew _)
      (refine wpAny_take (i := 0) (v := ?_) rfl (by kernel_rfl) (by kernel_rfl) (by kernel_rfl) (fun _ _ _ h => h) (Or.inl ⟨by rfl, ?_⟩) ?_)
      rotate_left
      · intro w; go_simp; with_reducible rfl
      (refine wpAny_take (i := 2) (v := ?_) rfl (by kernel_rfl) (by kernel_rfl) (by kernel_rfl) (fun _ _ _ h => h) (Or.inl ⟨by rfl, ?_⟩) ?_)
      rotate_left
      · intro w; go_simp; with_reducible rfl
      (refine wpAny_ready (rs := [1, 3]) (by kernel_rfl) (by simp) ?_); (refine AllReady.cons rfl (fun K hK => ?_) (AllReady.cons rfl (fun K hK => ?_) AllReady.nil))
      · go_simp
        refine hK _ _ ?_; clear hK K; (refine wpAny_ready (rs := [3]) (by kernel_rfl) (by simp) ?_); (refine AllReady.cons rfl (fun K hK => ?_) AllReady.nil); go_simp; (refine (ihT.bad br _ a2 r2 _ ha2 hr2.drew (by omega) (by omega) hx).mono ?_); rintro e w3 ⟨hk3, a3, rfl, ha3⟩; exact ⟨rfl, KK.trans hk3, Or.inr ⟨r3, a3, ev_then_bad2 hev hcl hx, rfl, ha3⟩⟩
      · go_simp
        (refine (ihT.bad br _ a2 r2 _ ha2 hr2.drew (by omega) (by omega) hx).mono ?_); rintro e w3 ⟨hk3, a3, rfl, ha3⟩
        exact ⟨rfl, KK.trans hk3, Or.inr ⟨r3, a3, ev_then_bad2 hev hcl hx, rfl, ha3⟩⟩
    | ok g r3 =>
      obtain ⟨k', nm', ks'⟩ := g
      go_region_held3 (fun w' => w'.cell? ⟨w1.heap.size, 0, none⟩ = some (.int .i64 k) ∧ w'.cell? ⟨w1.heap.size, 1, none⟩ = some (.string nm) ∧ w'.cell? ⟨w1.heap.size, 2, none⟩ = some (.slice sl ks.length cap)) (go_keep)
        (first
         | (go_at_call 83
            (refine (ihT.ok br _ a2 r2 _ ha2 hr2.drew (by omega) (by omega) hx).mono ?_); rintro e w3 ⟨hk3, v, a3, rfl, hrep3, ha3, hr3, hb3⟩; obtain ⟨sl', cap', rfl, hy1, hy2, hy3, hy4⟩ := Rep.def.1 hrep3; clear hy4; have q4 : w3.heap[w.heap.size]? = some (.cells #[.int .i64 0, .string ⟨#[]⟩, .slice none 0 0] 24 (0, 0)) := (hk3.block _ z2 hne).trans q2; have q5 : w3.heap[w1.heap.size]? = some (.cells #[.int .i64 k, .string nm, .slice sl ks.length cap] 24 (0, 0)) := (hk3.block _ z3 hn1).trans q3; obtain ⟨m1, m2, m3, m4, m5, m6⟩ := blk3 q4
            obtain ⟨p1, p2, p3, p4, p5, p6⟩ := blk3 q5)
         | (go_at_call 109
            (refine (node_any br 7 t a3 _ _ 2 2 _ (hr3.alloc _) (by omega)).mono ?_); rintro e w4 ⟨rfl, hr4, hk4⟩; have z4 := lt_of_block q4; have z5 := lt_of_block q5
            have q6 : w4.heap[w.heap.size]? = some (.cells #[.int .i64 0, .string ⟨#[]⟩, .slice none 0 0] 24 (0, 0)) := by
              (rw [hk4.block _ (by simp; omega) hne, Below.heap_alloc _ _ _ z4]; exact q4)
            have q7 : w4.heap[w1.heap.size]? = some (.cells #[.int .i64 k, .string nm, .slice sl ks.length cap] 24 (0, 0)) := by
              (rw [hk4.block _ (by simp; omega) hn1, Below.heap_alloc _ _ _ z5]; exact q5)
            obtain ⟨o1, o2, o3, o4, o5, o6⟩ := blk3 q6
            obtain ⟨s1, s2, s3, s4, s5, s6⟩ := blk3 q7)
         | fail)
      go_wp2; have z6 := hk3.size; have z7 := h.lt; have z8 : w2.drew.heap.size = w2.heap.size := rfl; (have hn3 : w3.heap.size ≠ br := by have := hr3.lt; omega); have K3 : Kept (· ≠ br) w3 w4 := ((Kept.refl _ _).alloc _).trans hk4; (have z : w4.heap[w3.heap.size]? = some (.cells #[.int .i64 k, .string nm, .slice sl ks.length cap, .int .i64 k', .string nm', .slice sl' ks'.length cap'] 24 (0, 0)) := (hk4.block _ (by simp) hn3).trans (blk_new _ _)); have z9 := lt_of_block q6; have K : Kept (· ≠ br) w w4 := KK.trans (hk3.trans K3); have K2 : Kept (· ≠ br) w1 w4 := (((Kept.refl _ _).alloc _).trans hk2).drew.trans (hk3.trans K3); (refine bodyPost_ret (v := .agg #[.int .i64 7, .string ⟨#[]⟩, .slice (some ⟨w3.heap.size, 0, none⟩) 2 2]) (by simp [results, Try.results83, go_sem, o1, o2, o3]) rfl ⟨?_, Or.inl ⟨.mk 7 e0 [.mk k nm ks, .mk k' nm' ks'], r3, _, a3, ev_then_ok hev hcl hx, rfl, ?_, ha3, ?_, ?_⟩⟩)
      · exact ((K.setCell (fun h => by simp at h) _).setCell (fun h => by simp at h) _).setCell (fun h => by simp at h) _
      · refine Rep.two (T := 24) (c0 := .int .i64 k) (c1 := .string nm) (c2 := .slice sl ks.length cap) (d0 := .int .i64 k') (d1 := .string nm') (d2 := .slice sl' ks'.length cap') ?_ (by omega) ?_ ?_
        · rw [Below.heap_setCell _ _ _ _ (by simp; omega), Below.heap_setCell _ _ _ _ (by simp; omega), Below.heap_setCell _ _ _ _ (by simp; omega)]; exact z
        · refine hrep.move fun b hb1 hb2 => ⟨?_, by simp at hb2; omega⟩
          simp at hb2; (rw [Below.heap_setCell _ _ _ _ (by simp; omega), Below.heap_setCell _ _ _ _ (by simp; omega), Below.heap_setCell _ _ _ _ (by simp; omega)]); (exact K2.block b hb1 (by omega))
        · refine hrep3.move fun b hb1 hb2 => ⟨?_, by omega⟩
          (rw [Below.heap_setCell _ _ _ _ (by simp; omega), Below.heap_setCell _ _ _ _ (by simp; omega), Below.heap_setCell _ _ _ _ (by simp; omega)]); (exact K3.block b hb1 (by omega))
      · exact (rs_cast hr4 (by rw [size_two]; omega)).other hne _ |>.other hne _ |>.other hne _
      · rw [size_two]; omega
  · exact ⟨rfl, ((Kept.refl _ _).alloc _).trans hk1, Or.inr ⟨r1, a1, ev_then_bad hev, rfl, ha1⟩⟩
end Go.Proofs.Ytfhbpfgbnfcdaaa
/- Walks: a reader's 'and' and 'or'. -/
namespace Go.Proofs.Ytfhbpfgbnfcdaaa
open Go.RowKit

theorem set3 {w : World} {b : Nat} {x0 x1 x2 : Value} {T : TypeId} (h : w.heap[b]? = some (.cells #[x0, x1, x2] T (0, 0))) (y0 y1 y2 : Value) :
    (((w.setCell ⟨b, 0, none⟩ y0).setCell ⟨b, 1, none⟩ y1).setCell ⟨b, 2, none⟩ y2).heap[b]? = some (.cells #[y0, y1, y2] T (0, 0)) := by
  simp [World.setCell, Array.getElem?_modify, h]

set_option maxHeartbeats 2000000 in
theorem and_step (t : ByteArray) (ht : t.size ≤ 20000) (m : Nat) (ihN : Reads mNot 140 t m) : Reads mAnd 131 t m := by
  intro br n a l w ha h hn hm; (have hne : w.heap.size ≠ br := by have := h.lt; omega)
  go_enter Try.func131, Try.ntmps131
  go_wp2_with (first
    | (go_at_call 140
       refine (ihN br n a l _ ha (h.alloc _) hn hm).mono ?_; rintro e w1 ⟨hk1, ⟨⟨k, nm, ks⟩, r1, v, a1, hev, rfl, hrep, ha1, hr1, hb1⟩ | ⟨r1, a1, hev, rfl, ha1⟩⟩
       all_goals try (obtain ⟨sl, cap, rfl, hx1, hx2, hx3, hx4⟩ := Rep.def.1 hrep; clear hx4))
    | fail)
  · have z0 := hk1.size
    simp at z0; have zb := h.lt; (have hn1 : w1.heap.size ≠ br := by omega); (have d1 : ¬ w.heap.size = w1.heap.size := by omega); (have d2 : ¬ w1.heap.size = w.heap.size := by omega)
    go_loopg [] r1.length (fun g wr => ∃ (k : Int) (nm : ByteArray) (ks : List Fm) (sl : Option Addr) (cap a' : Nat) (l' : List UInt8), l'.length = g ∧ At t a' l' ∧ RS br wr t a' (n + (Fm.mk k nm ks).size) ∧ (Fm.mk k nm ks).size + l'.length ≤ l.length ∧ Kept (· ≠ br) w wr ∧ wr.heap[w.heap.size]? = some (.cells #[.int .i64 0, .string ⟨#[]⟩, .slice none 0 0] 24 (0, 0)) ∧ wr.heap[w1.heap.size]? = some (.cells #[.int .i64 k, .string nm, .slice sl ks.length cap] 24 (0, 0)) ∧ Rep wr (fun b => w.heap.size + 1 ≤ b ∧ b ≠ w1.heap.size) (.mk k nm ks) (.agg #[.int .i64 k, .string nm, .slice sl ks.length cap]) ∧ Hid (∀ x, Ev (mAnds · (.mk k nm ks) l') x → Ev (mAnd · l) x))
    case atStart =>
      (refine ⟨k, nm, ks, sl, cap, a1, r1, rfl, ha1, hr1.alloc _, hb1, (((Kept.refl _ _).alloc _).trans hk1).alloc _, ?_, blk_new _ _, ?_, fun x hx => ev_and_ok hev hx⟩)
      · rw [Below.heap_alloc _ _ _ (by omega)]; exact (hk1.block _ (by simp) hne).trans (blk_new _ _)
      · refine hrep.move fun b hb1 hb2 => ⟨Below.heap_alloc _ _ _ hb1, ?_⟩
        simp at hb2; (exact ⟨hb2, by omega⟩)
    case round =>
      clear hrep hev ha1 hr1 hb1 hx1 hx2 hx3; obtain ⟨k, nm, ks, sl, cap, a1, r1, hg, ha1, hr1, hb1, hkw, q0, q1, hrep, HC⟩ := hrel; have z2 := lt_of_block q0; have z3 := lt_of_block q1
      rcases hcl : takeS [38] r1 with _ | r2
      · go_wp2_with (first
          | (go_at_call_of 108 (Value.string ⟨#[38]⟩)
             refine (take_no br t ⟨#[38]⟩ ht _ _ a1 r1 ha1 hr1 hcl).mono ?_; rintro e w2 ⟨rfl, ⟨a2, ha2, hr2⟩, hk2⟩; have q2 := (hk2.block _ z2 hne).trans q0; have q3 := (hk2.block _ z3 hn1).trans q1; obtain ⟨k1, k2, k3, k4, k5, k6⟩ := blk3 q2
             obtain ⟨g1, g2, g3, g4, g5, g6⟩ := blk3 q3)
          | fail)
        have z5 := skipB_length r1; have K : Kept (· ≠ br) w w2 := hkw.trans hk2; (refine bodyPost_ret (v := .agg #[.int .i64 k, .string nm, .slice sl ks.length cap]) (by simp [results, Try.results131, go_sem, k1, k2, k3]) rfl ⟨?_, Or.inl ⟨.mk k nm ks, skipB r1, _, a2, HC.out _ (ev_ands_no hcl), rfl, ?_, ha2, ?_, by omega⟩⟩)
        · exact ((K.setCell (fun h => by simp at h) _).setCell (fun h => by simp at h) _).setCell (fun h => by simp at h) _
        · refine hrep.move fun b hb1 hb2 => ⟨?_, by omega⟩
          (rw [Below.heap_setCell _ _ _ _ (by simp; omega), Below.heap_setCell _ _ _ _ (by simp; omega), Below.heap_setCell _ _ _ _ (by simp; omega)]); (exact hk2.block b hb1 (by omega))
        · exact hr2.other hne _ |>.other hne _ |>.other hne _
      · have hll := takeS_len hcl
        simp at hll
        go_wp2_with (first
          | (go_at_call_of 108 (Value.string ⟨#[38]⟩)
             (refine (take_yes br t ⟨#[38]⟩ ht (by decide) _ _ a1 r1 r2 ha1 hr1 hcl).mono ?_)
             rintro e w2 ⟨rfl, ⟨a2, ha2, hr2⟩, hk2⟩)
          | fail)
        have q2 := (hk2.block _ z2 hne).trans q0; have q3 := (hk2.block _ z3 hn1).trans q1; have y2 := lt_of_block q2; have y3 := lt_of_block q3; have KK : Kept (· ≠ br) w w2.drew := (hkw.trans hk2).drew; obtain ⟨g1, g2, g3, g4, g5, g6⟩ := blk3 q3; obtain ⟨x, hx, -⟩ := (tot_all r2.length).1 r2 (Nat.le_refl _)
        cases x with
        | bad r3 =>
          (refine wp_region_any (by kernel_rfl) ?_)
          change wpAny _ _ _ _ _ _ _ (World.drew _)
          (refine wpAny_take (i := 0) (v := ?_) rfl (by kernel_rfl) (by kernel_rfl) (by kernel_rfl) (fun _ _ _ h => h) (Or.inl ⟨by rfl, ?_⟩) ?_)
          rotate_left
          · intro w; go_simp; with_reducible rfl
          (refine wpAny_take (i := 2) (v := ?_) rfl (by kernel_rfl) (by kernel_rfl) (by kernel_rfl) (fun _ _ _ h => h) (Or.inl ⟨by rfl, ?_⟩) ?_)
          rotate_left
          · intro w; go_simp; with_reducible rfl
          (refine wpAny_ready (rs := [1, 3]) (by kernel_rfl) (by simp) ?_); (refine AllReady.cons rfl (fun K hK => ?_) (AllReady.cons rfl (fun K hK => ?_) AllReady.nil))
          · go_simp
            refine hK _ _ ?_; clear hK K; (refine wpAny_ready (rs := [3]) (by kernel_rfl) (by simp) ?_); (refine AllReady.cons rfl (fun K hK => ?_) AllReady.nil); go_simp; (refine (ihN.bad br _ a2 r2 _ ha2 hr2.drew (by omega) (by omega) hx).mono ?_); rintro e w3 ⟨hk3, a3, rfl, ha3⟩; exact ⟨rfl, KK.trans hk3, Or.inr ⟨r3, a3, HC.out _ (ev_ands_bad hcl hx), rfl, ha3⟩⟩
          · go_simp
            (refine (ihN.bad br _ a2 r2 _ ha2 hr2.drew (by omega) (by omega) hx).mono ?_); rintro e w3 ⟨hk3, a3, rfl, ha3⟩
            exact ⟨rfl, KK.trans hk3, Or.inr ⟨r3, a3, HC.out _ (ev_ands_bad hcl hx), rfl, ha3⟩⟩
        | ok g r3 =>
          obtain ⟨k', nm', ks'⟩ := g
          go_region_with
            (first
             | (go_at_call 140
                (refine (ihN.ok br _ a2 r2 _ ha2 hr2.drew (by omega) (by omega) hx).mono ?_); rintro e w3 ⟨hk3, v, a3, rfl, hrep3, ha3, hr3, hb3⟩; obtain ⟨sl', cap', rfl, hy1, hy2, hy3, hy4⟩ := Rep.def.1 hrep3; clear hy4; have q4 := (hk3.block _ y2 hne).trans q2; have q5 := (hk3.block _ y3 hn1).trans q3
                obtain ⟨p1, p2, p3, p4, p5, p6⟩ := blk3 q5)
             | (go_at_call 109
                (refine (node_any br 5 t a3 _ _ 2 2 _ (hr3.alloc _) (by omega)).mono ?_); rintro e w4 ⟨rfl, hr4, hk4⟩; have z4 := lt_of_block q4; have z5 := lt_of_block q5
                have q6 : w4.heap[w.heap.size]? = some (.cells #[.int .i64 0, .string ⟨#[]⟩, .slice none 0 0] 24 (0, 0)) := by
                  (rw [hk4.block _ (by simp; omega) hne, Below.heap_alloc _ _ _ z4]; exact q4)
                have q7 : w4.heap[w1.heap.size]? = some (.cells #[.int .i64 k, .string nm, .slice sl ks.length cap] 24 (0, 0)) := by
                  (rw [hk4.block _ (by simp; omega) hn1, Below.heap_alloc _ _ _ z5]; exact q5)
                obtain ⟨s1, s2, s3, s4, s5, s6⟩ := blk3 q7)
             | fail)
          all_goals
            go_wp2; have z6 := hk3.size; have z8 : w2.drew.heap.size = w2.heap.size := rfl; (have hn3 : w3.heap.size ≠ br := by have := hr3.lt; omega); have K3 : Kept (· ≠ br) w3 w4 := ((Kept.refl _ _).alloc _).trans hk4; (have z : w4.heap[w3.heap.size]? = some (.cells #[.int .i64 k, .string nm, .slice sl ks.length cap, .int .i64 k', .string nm', .slice sl' ks'.length cap'] 24 (0, 0)) := (hk4.block _ (by simp) hn3).trans (blk_new _ _)); have z9 := lt_of_block q6; have K : Kept (· ≠ br) w w4 := KK.trans (hk3.trans K3); have K2 : Kept (· ≠ br) wr w4 := hk2.drew.trans (hk3.trans K3)
            go_roundg r3.length
            case measure => omega
            case rel =>
              refine ⟨5, e0, [.mk k nm ks, .mk k' nm' ks'], some ⟨w3.heap.size, 0, none⟩, 2, a3, r3, rfl, ha3, ?_, ?_, ?_, ?_, ?_, ?_, ?_⟩
              · exact (rs_cast hr4 (by rw [size_two]; omega)).other hn1 _ |>.other hn1 _ |>.other hn1 _
              · rw [size_two]; omega
              · exact ((K.setCell (fun h => by simp at h; omega) _).setCell (fun h => by simp at h; omega) _).setCell (fun h => by simp at h; omega) _
              · rw [Below.heap_setCell _ _ _ _ d1, Below.heap_setCell _ _ _ _ d1, Below.heap_setCell _ _ _ _ d1]; exact q6
              · exact set3 q7 _ _ _
              · refine Rep.two (T := 24) (c0 := .int .i64 k) (c1 := .string nm) (c2 := .slice sl ks.length cap) (d0 := .int .i64 k') (d1 := .string nm') (d2 := .slice sl' ks'.length cap') ?_ (by omega) ?_ ?_
                · rw [Below.heap_setCell _ _ _ _ (by simp; omega), Below.heap_setCell _ _ _ _ (by simp; omega), Below.heap_setCell _ _ _ _ (by simp; omega)]; exact z
                · refine hrep.move fun b hb1 hb2 => ⟨?_, hb2⟩
                  (rw [Below.heap_setCell _ _ _ _ (by simp; omega), Below.heap_setCell _ _ _ _ (by simp; omega), Below.heap_setCell _ _ _ _ (by simp; omega)]); (exact K2.block b hb1 (by omega))
                · refine hrep3.move fun b hb1 hb2 => ⟨?_, by omega⟩
                  (rw [Below.heap_setCell _ _ _ _ (by simp; omega), Below.heap_setCell _ _ _ _ (by simp; omega), Below.heap_setCell _ _ _ _ (by simp; omega)]); (exact K3.block b hb1 (by omega))
              · exact fun x hx' => HC.out x (ev_ands_ok hcl hx hx')
  · exact ⟨rfl, ((Kept.refl _ _).alloc _).trans hk1, Or.inr ⟨r1, a1, ev_and_bad hev, rfl, ha1⟩⟩

set_option maxHeartbeats 2000000 in
theorem or_step (t : ByteArray) (ht : t.size ≤ 20000) (m : Nat) (ihN : Reads mAnd 131 t m) : Reads mOr 107 t m := by
  intro br n a l w ha h hn hm; (have hne : w.heap.size ≠ br := by have := h.lt; omega)
  go_enter Try.func107, Try.ntmps107
  go_wp2_with (first
    | (go_at_call 131
       refine (ihN br n a l _ ha (h.alloc _) hn hm).mono ?_; rintro e w1 ⟨hk1, ⟨⟨k, nm, ks⟩, r1, v, a1, hev, rfl, hrep, ha1, hr1, hb1⟩ | ⟨r1, a1, hev, rfl, ha1⟩⟩
       all_goals try (obtain ⟨sl, cap, rfl, hx1, hx2, hx3, hx4⟩ := Rep.def.1 hrep; clear hx4))
    | fail)
  · have z0 := hk1.size
    simp at z0; have zb := h.lt; (have hn1 : w1.heap.size ≠ br := by omega); (have d1 : ¬ w.heap.size = w1.heap.size := by omega); (have d2 : ¬ w1.heap.size = w.heap.size := by omega)
    go_loopg [] r1.length (fun g wr => ∃ (k : Int) (nm : ByteArray) (ks : List Fm) (sl : Option Addr) (cap a' : Nat) (l' : List UInt8), l'.length = g ∧ At t a' l' ∧ RS br wr t a' (n + (Fm.mk k nm ks).size) ∧ (Fm.mk k nm ks).size + l'.length ≤ l.length ∧ Kept (· ≠ br) w wr ∧ wr.heap[w.heap.size]? = some (.cells #[.int .i64 0, .string ⟨#[]⟩, .slice none 0 0] 24 (0, 0)) ∧ wr.heap[w1.heap.size]? = some (.cells #[.int .i64 k, .string nm, .slice sl ks.length cap] 24 (0, 0)) ∧ Rep wr (fun b => w.heap.size + 1 ≤ b ∧ b ≠ w1.heap.size) (.mk k nm ks) (.agg #[.int .i64 k, .string nm, .slice sl ks.length cap]) ∧ Hid (∀ x, Ev (mOrs · (.mk k nm ks) l') x → Ev (mOr · l) x))
    case atStart =>
      (refine ⟨k, nm, ks, sl, cap, a1, r1, rfl, ha1, hr1.alloc _, hb1, (((Kept.refl _ _).alloc _).trans hk1).alloc _, ?_, blk_new _ _, ?_, fun x hx => ev_or_ok hev hx⟩)
      · rw [Below.heap_alloc _ _ _ (by omega)]; exact (hk1.block _ (by simp) hne).trans (blk_new _ _)
      · refine hrep.move fun b hb1 hb2 => ⟨Below.heap_alloc _ _ _ hb1, ?_⟩
        simp at hb2; (exact ⟨hb2, by omega⟩)
    case round =>
      clear hrep hev ha1 hr1 hb1 hx1 hx2 hx3; obtain ⟨k, nm, ks, sl, cap, a1, r1, hg, ha1, hr1, hb1, hkw, q0, q1, hrep, HC⟩ := hrel; have z2 := lt_of_block q0; have z3 := lt_of_block q1
      rcases hcl : takeS [124] r1 with _ | r2
      · go_wp2_with (first
          | (go_at_call_of 108 (Value.string ⟨#[124]⟩)
             refine (take_no br t ⟨#[124]⟩ ht _ _ a1 r1 ha1 hr1 hcl).mono ?_; rintro e w2 ⟨rfl, ⟨a2, ha2, hr2⟩, hk2⟩; have q2 := (hk2.block _ z2 hne).trans q0; have q3 := (hk2.block _ z3 hn1).trans q1; obtain ⟨k1, k2, k3, k4, k5, k6⟩ := blk3 q2
             obtain ⟨g1, g2, g3, g4, g5, g6⟩ := blk3 q3)
          | fail)
        have z5 := skipB_length r1; have K : Kept (· ≠ br) w w2 := hkw.trans hk2; (refine bodyPost_ret (v := .agg #[.int .i64 k, .string nm, .slice sl ks.length cap]) (by simp [results, Try.results107, go_sem, k1, k2, k3]) rfl ⟨?_, Or.inl ⟨.mk k nm ks, skipB r1, _, a2, HC.out _ (ev_ors_no hcl), rfl, ?_, ha2, ?_, by omega⟩⟩)
        · exact ((K.setCell (fun h => by simp at h) _).setCell (fun h => by simp at h) _).setCell (fun h => by simp at h) _
        · refine hrep.move fun b hb1 hb2 => ⟨?_, by omega⟩
          (rw [Below.heap_setCell _ _ _ _ (by simp; omega), Below.heap_setCell _ _ _ _ (by simp; omega), Below.heap_setCell _ _ _ _ (by simp; omega)]); (exact hk2.block b hb1 (by omega))
        · exact hr2.other hne _ |>.other hne _ |>.other hne _
      · have hll := takeS_len hcl
        simp at hll
        go_wp2_with (first
          | (go_at_call_of 108 (Value.string ⟨#[124]⟩)
             (refine (take_yes br t ⟨#[124]⟩ ht (by decide) _ _ a1 r1 r2 ha1 hr1 hcl).mono ?_)
             rintro e w2 ⟨rfl, ⟨a2, ha2, hr2⟩, hk2⟩)
          | fail)
        have q2 := (hk2.block _ z2 hne).trans q0; have q3 := (hk2.block _ z3 hn1).trans q1; have y2 := lt_of_block q2; have y3 := lt_of_block q3; have KK : Kept (· ≠ br) w w2.drew := (hkw.trans hk2).drew; obtain ⟨g1, g2, g3, g4, g5, g6⟩ := blk3 q3; obtain ⟨x, hx, -⟩ := (tot_and (tot_all r2.length).1) r2 (Nat.le_refl _)
        cases x with
        | bad r3 =>
          (refine wp_region_any (by kernel_rfl) ?_)
          change wpAny _ _ _ _ _ _ _ (World.drew _)
          (refine wpAny_take (i := 0) (v := ?_) rfl (by kernel_rfl) (by kernel_rfl) (by kernel_rfl) (fun _ _ _ h => h) (Or.inl ⟨by rfl, ?_⟩) ?_)
          rotate_left
          · intro w; go_simp; with_reducible rfl
          (refine wpAny_take (i := 2) (v := ?_) rfl (by kernel_rfl) (by kernel_rfl) (by kernel_rfl) (fun _ _ _ h => h) (Or.inl ⟨by rfl, ?_⟩) ?_)
          rotate_left
          · intro w; go_simp; with_reducible rfl
          (refine wpAny_ready (rs := [1, 3]) (by kernel_rfl) (by simp) ?_); (refine AllReady.cons rfl (fun K hK => ?_) (AllReady.cons rfl (fun K hK => ?_) AllReady.nil))
          · go_simp
            refine hK _ _ ?_; clear hK K; (refine wpAny_ready (rs := [3]) (by kernel_rfl) (by simp) ?_); (refine AllReady.cons rfl (fun K hK => ?_) AllReady.nil); go_simp; (refine (ihN.bad br _ a2 r2 _ ha2 hr2.drew (by omega) (by omega) hx).mono ?_); rintro e w3 ⟨hk3, a3, rfl, ha3⟩; exact ⟨rfl, KK.trans hk3, Or.inr ⟨r3, a3, HC.out _ (ev_ors_bad hcl hx), rfl, ha3⟩⟩
          · go_simp
            (refine (ihN.bad br _ a2 r2 _ ha2 hr2.drew (by omega) (by omega) hx).mono ?_); rintro e w3 ⟨hk3, a3, rfl, ha3⟩
            exact ⟨rfl, KK.trans hk3, Or.inr ⟨r3, a3, HC.out _ (ev_ors_bad hcl hx), rfl, ha3⟩⟩
        | ok g r3 =>
          obtain ⟨k', nm', ks'⟩ := g
          go_region_with
            (first
             | (go_at_call 131
                (refine (ihN.ok br _ a2 r2 _ ha2 hr2.drew (by omega) (by omega) hx).mono ?_); rintro e w3 ⟨hk3, v, a3, rfl, hrep3, ha3, hr3, hb3⟩; obtain ⟨sl', cap', rfl, hy1, hy2, hy3, hy4⟩ := Rep.def.1 hrep3; clear hy4; have q4 := (hk3.block _ y2 hne).trans q2; have q5 := (hk3.block _ y3 hn1).trans q3
                obtain ⟨p1, p2, p3, p4, p5, p6⟩ := blk3 q5)
             | (go_at_call 109
                (refine (node_any br 6 t a3 _ _ 2 2 _ (hr3.alloc _) (by omega)).mono ?_); rintro e w4 ⟨rfl, hr4, hk4⟩; have z4 := lt_of_block q4; have z5 := lt_of_block q5
                have q6 : w4.heap[w.heap.size]? = some (.cells #[.int .i64 0, .string ⟨#[]⟩, .slice none 0 0] 24 (0, 0)) := by
                  (rw [hk4.block _ (by simp; omega) hne, Below.heap_alloc _ _ _ z4]; exact q4)
                have q7 : w4.heap[w1.heap.size]? = some (.cells #[.int .i64 k, .string nm, .slice sl ks.length cap] 24 (0, 0)) := by
                  (rw [hk4.block _ (by simp; omega) hn1, Below.heap_alloc _ _ _ z5]; exact q5)
                obtain ⟨s1, s2, s3, s4, s5, s6⟩ := blk3 q7)
             | fail)
          all_goals
            go_wp2; have z6 := hk3.size; have z8 : w2.drew.heap.size = w2.heap.size := rfl; (have hn3 : w3.heap.size ≠ br := by have := hr3.lt; omega); have K3 : Kept (· ≠ br) w3 w4 := ((Kept.refl _ _).alloc _).trans hk4; (have z : w4.heap[w3.heap.size]? = some (.cells #[.int .i64 k, .string nm, .slice sl ks.length cap, .int .i64 k', .string nm', .slice sl' ks'.length cap'] 24 (0, 0)) := (hk4.block _ (by simp) hn3).trans (blk_new _ _)); have z9 := lt_of_block q6; have K : Kept (· ≠ br) w w4 := KK.trans (hk3.trans K3); have K2 : Kept (· ≠ br) wr w4 := hk2.drew.trans (hk3.trans K3)
            go_roundg r3.length
            case measure => omega
            case rel =>
              refine ⟨6, e0, [.mk k nm ks, .mk k' nm' ks'], some ⟨w3.heap.size, 0, none⟩, 2, a3, r3, rfl, ha3, ?_, ?_, ?_, ?_, ?_, ?_, ?_⟩
              · exact (rs_cast hr4 (by rw [size_two]; omega)).other hn1 _ |>.other hn1 _ |>.other hn1 _
              · rw [size_two]; omega
              · exact ((K.setCell (fun h => by simp at h; omega) _).setCell (fun h => by simp at h; omega) _).setCell (fun h => by simp at h; omega) _
              · rw [Below.heap_setCell _ _ _ _ d1, Below.heap_setCell _ _ _ _ d1, Below.heap_setCell _ _ _ _ d1]; exact q6
              · exact set3 q7 _ _ _
              · refine Rep.two (T := 24) (c0 := .int .i64 k) (c1 := .string nm) (c2 := .slice sl ks.length cap) (d0 := .int .i64 k') (d1 := .string nm') (d2 := .slice sl' ks'.length cap') ?_ (by omega) ?_ ?_
                · rw [Below.heap_setCell _ _ _ _ (by simp; omega), Below.heap_setCell _ _ _ _ (by simp; omega), Below.heap_setCell _ _ _ _ (by simp; omega)]; exact z
                · refine hrep.move fun b hb1 hb2 => ⟨?_, hb2⟩
                  (rw [Below.heap_setCell _ _ _ _ (by simp; omega), Below.heap_setCell _ _ _ _ (by simp; omega), Below.heap_setCell _ _ _ _ (by simp; omega)]); (exact K2.block b hb1 (by omega))
                · refine hrep3.move fun b hb1 hb2 => ⟨?_, by omega⟩
                  (rw [Below.heap_setCell _ _ _ _ (by simp; omega), Below.heap_setCell _ _ _ _ (by simp; omega), Below.heap_setCell _ _ _ _ (by simp; omega)]); (exact K3.block b hb1 (by omega))
              · exact fun x hx' => HC.out x (ev_ors_ok hcl hx hx')
  · exact ⟨rfl, ((Kept.refl _ _).alloc _).trans hk1, Or.inr ⟨r1, a1, ev_or_bad hev, rfl, ha1⟩⟩

theorem reads_all (t : ByteArray) (ht : t.size ≤ 20000) : ∀ m, Reads mNot 140 t m ∧ Reads mThen 83 t m
  | 0 => ⟨fun _ _ _ _ _ _ _ _ h => absurd h (Nat.not_lt_zero _), fun _ _ _ _ _ _ _ _ h => absurd h (Nat.not_lt_zero _)⟩
  | m + 1 => by
    obtain ⟨h1, h2⟩ := reads_all t ht m; have h3 := not_step t ht m h1 h2; exact ⟨h3, then_step t ht m (or_step t ht _ (and_step t ht _ h3)) h2⟩
end Go.Proofs.Ytfhbpfgbnfcdaaa
