/- Texts of one proof, one behind the other: FRI, FRJ, FRK, FRL. -/
import Derived.Test.YtheiikkeelbjnajGreatB32
import Derived.Test.YtheiikkeelbjnajGreatB16
/- Walks: a reader's 'and', 'or' in first order. -/
namespace Go.Proofs.YtheiikkeelbjnajGreat
open Go.RowKit Go.Sort

theorem setx4 {w : World} {b : Nat} {x0 x1 x2 x3 : Value} {T : TypeId} (h : w.heap[b]? = some (.cells #[x0, x1, x2, x3] T (0, 0))) (y0 y1 y2 y3 : Value) :
    ((((w.setCell ⟨b, 0, none⟩ y0).setCell ⟨b, 1, none⟩ y1).setCell ⟨b, 2, none⟩ y2).setCell ⟨b, 3, none⟩ y3).heap[b]? = some (.cells #[y0, y1, y2, y3] T (0, 0)) := by
  simp [World.setCell, Array.getElem?_modify, h]
set_option maxHeartbeats 2000000 in
theorem rand_step (t : ByteArray) (ht : t.size ≤ 20000) (m : Nat) (ihN : ExReads rNot 205 t m) : ExReads rAnd 198 t m := by
  intro br a l w ha h hm; (have hne : w.heap.size ≠ br := by have := h.lt; omega)
  go_enter Tryz.func198, Tryz.ntmps198
  go_wp2_with (first
    | (go_at_call 205
       refine (ihN br a l _ ha (h.alloc _) hm).mono ?_; rintro e w1 ⟨hk1, ⟨⟨k, n, ws, ks⟩, r1, v, a1, hev, rfl, hrep, ha1, hr1, hb1⟩ | ⟨r1, a1, hev, rfl, ha1⟩⟩
       all_goals try (obtain ⟨sw, cw, sk, ck, rfl, -⟩ := EQ.def.1 hrep))
    | fail)
  · have z0 := hk1.size
    simp at z0; have zb := h.lt; (have hn1 : w1.heap.size ≠ br := by omega); (have d1 : ¬ w.heap.size = w1.heap.size := by omega); (have d2 : ¬ w1.heap.size = w.heap.size := by omega)
    go_loopg [] r1.length (fun g wr => ∃ (k : Int) (n : ByteArray) (ws : List Wd) (ks : List Ex) (sw : Option Addr) (cw : Nat) (sk : Option Addr) (ck a' : Nat) (l' : List UInt8), l'.length = g ∧ At t a' l' ∧ TS br wr t a' ∧ (Ex.mk k n ws ks).size + l'.length ≤ l.length ∧ Kept (· ≠ br) w wr ∧ wr.heap[w.heap.size]? = some (.cells #[.int .i64 0, .string ⟨#[]⟩, .slice none 0 0, .slice none 0 0] 25 (0, 0)) ∧ wr.heap[w1.heap.size]? = some (.cells #[.int .i64 k, .string n, .slice sw ws.length cw, .slice sk ks.length ck] 25 (0, 0)) ∧ EQ wr (fun b => w.heap.size + 1 ≤ b ∧ b ≠ w1.heap.size) (.mk k n ws ks) (.agg #[.int .i64 k, .string n, .slice sw ws.length cw, .slice sk ks.length ck]) ∧ Hid (∀ x, EvR (rAnds · (.mk k n ws ks) l') x → EvR (rAnd · l) x))
    case atStart =>
      (refine ⟨k, n, ws, ks, sw, cw, sk, ck, a1, r1, rfl, ha1, hr1.alloc _, hb1, (((Kept.refl _ _).alloc _).trans hk1).alloc _, ?_, blk_new _ _, ?_, fun x hx => ev_rand_ok hev hx⟩)
      · rw [Below.heap_alloc _ _ _ (by omega)]; exact (hk1.block _ (by simp) hne).trans (blk_new _ _)
      · refine EQ.move (fun b hb1 hb2 => ⟨Below.heap_alloc _ _ _ hb1, ?_⟩) _ _ hrep
        simp at hb2; (exact ⟨hb2, by omega⟩)
    case round =>
      clear hrep hev ha1 hr1 hb1; obtain ⟨k, n, ws, ks, sw, cw, sk, ck, a1, r1, hg, ha1, hr1, hb1, hkw, q0, q1, hrep, HC⟩ := hrel; have z2 := lt_of_block q0; have z3 := lt_of_block q1
      rcases hcl : takeS [38] r1 with _ | r2
      · go_wp2_with (first
          | (go_at_call_of 176 (Value.string ⟨#[38]⟩)
             refine (takeT_no br t ⟨#[38]⟩ ht _ a1 r1 ha1 hr1 hcl).mono ?_; rintro e w2 ⟨rfl, ⟨a2, ha2, hr2⟩, hk2⟩; have q2 := (hk2.block _ z2 hne).trans q0; have q3 := (hk2.block _ z3 hn1).trans q1; obtain ⟨k1, k2, k3, k4, k5, k6, k7, k8⟩ := blk4N q2
             obtain ⟨g1, g2, g3, g4, g5, g6, g7, g8⟩ := blk4N q3)
          | fail)
        have z5 := skipB_length r1; have K : Kept (· ≠ br) w w2 := hkw.trans hk2; (refine bodyPost_ret (v := .agg #[.int .i64 k, .string n, .slice sw ws.length cw, .slice sk ks.length ck]) (by simp [results, Tryz.results198, go_sem, k1, k2, k3, k4]) rfl ⟨?_, Or.inl ⟨.mk k n ws ks, skipB r1, _, a2, HC.out _ (ev_rands_no hcl), rfl, ?_, ha2, ?_, by omega⟩⟩)
        · exact (((K.setCell (fun h => by simp at h) _).setCell (fun h => by simp at h) _).setCell (fun h => by simp at h) _).setCell (fun h => by simp at h) _
        · refine EQ.move (fun b hb1 hb2 => ⟨?_, by omega⟩) _ _ hrep
          (rw [Below.heap_setCell _ _ _ _ (by simp; omega), Below.heap_setCell _ _ _ _ (by simp; omega), Below.heap_setCell _ _ _ _ (by simp; omega), Below.heap_setCell _ _ _ _ (by simp; omega)]); (exact hk2.block b hb1 (by omega))
        · exact (((hr2.other hne _).other hne _).other hne _).other hne _
      · have hll := takeS_len hcl
        simp only [List.length_cons, List.length_nil] at hll
        go_wp2_with (first
          | (go_at_call_of 176 (Value.string ⟨#[38]⟩)
             (refine (takeT_yes br t ⟨#[38]⟩ ht (by decide) _ a1 r1 r2 ha1 hr1 hcl).mono ?_)
             rintro e w2 ⟨rfl, ⟨a2, ha2, hr2⟩, hk2⟩)
          | fail)
        have q2 := (hk2.block _ z2 hne).trans q0; have q3 := (hk2.block _ z3 hn1).trans q1; have y2 := lt_of_block q2; have y3 := lt_of_block q3; have KK : Kept (· ≠ br) w w2.drew := (hkw.trans hk2).drew; obtain ⟨g1, g2, g3, g4, g5, g6, g7, g8⟩ := blk4N q3; obtain ⟨x, hx, -⟩ := rNot_tot r2
        cases x with
        | bad r3 =>
          (refine wp_region_any (by kernel_rfl) ?_)
          change wpAny _ _ _ _ _ _ _ (World.drew _)
          (refine wpAny_take (i := 1) (v := ?_) rfl (by kernel_rfl) (by kernel_rfl) (by kernel_rfl) (fun _ _ _ h => h) (Or.inl ⟨by rfl, ?_⟩) ?_)
          rotate_left
          · intro w; go_simp; with_reducible rfl
          (refine wpAny_ready (rs := [0, 2]) (by kernel_rfl) (by simp) ?_); (refine AllReady.cons rfl (fun K hK => ?_) (AllReady.cons rfl (fun K hK => ?_) AllReady.nil))
          · go_simp
            refine hK _ _ ?_; clear hK K; (refine wpAny_ready (rs := [2]) (by kernel_rfl) (by simp) ?_); (refine AllReady.cons rfl (fun K hK => ?_) AllReady.nil); go_simp; (refine (ihN br a2 r2 w2.drew ha2 (hr2.same rfl) (by omega)).mono ?_); intro e w3 hp3; obtain ⟨hk3, a3, rfl, ha3⟩ := hp3.bad hx; exact ⟨rfl, KK.trans hk3, Or.inr ⟨r3, a3, HC.out _ (ev_rands_bad hcl hx), rfl, ha3⟩⟩
          · go_simp
            (refine (ihN br a2 r2 w2.drew ha2 (hr2.same rfl) (by omega)).mono ?_); intro e w3 hp3; obtain ⟨hk3, a3, rfl, ha3⟩ := hp3.bad hx
            exact ⟨rfl, KK.trans hk3, Or.inr ⟨r3, a3, HC.out _ (ev_rands_bad hcl hx), rfl, ha3⟩⟩
        | ok g r3 =>
          obtain ⟨k', n', ws', ks'⟩ := g
          go_region_with
            (first
             | (go_at_call 205
                (refine (ihN br a2 r2 w2.drew ha2 (hr2.same rfl) (by omega)).mono ?_); intro e w3 hp3; obtain ⟨hk3, v, a3, rfl, hrep3, ha3, hr3, hb3⟩ := hp3.ok hx; obtain ⟨sw', cw', sk', ck', rfl, -⟩ := EQ.def.1 hrep3; have q4 := (hk3.block _ y2 hne).trans q2; have q5 := (hk3.block _ y3 hn1).trans q3
                obtain ⟨p1, p2, p3, p4, p5, p6, p7, p8⟩ := blk4N q5)
             | (go_at_call 177
                refine (xnode_any _ _ _ _ _).mono ?_; rintro e w4 ⟨rfl, hb4⟩; have z4 := lt_of_block q4; have z5 := lt_of_block q5
                have q6 : w4.heap[w.heap.size]? = some (.cells #[.int .i64 0, .string ⟨#[]⟩, .slice none 0 0, .slice none 0 0] 25 (0, 0)) := by
                  (rw [hb4.block _ (by simp; omega), Below.heap_alloc _ _ _ z4]; exact q4)
                have q7 : w4.heap[w1.heap.size]? = some (.cells #[.int .i64 k, .string n, .slice sw ws.length cw, .slice sk ks.length ck] 25 (0, 0)) := by
                  (rw [hb4.block _ (by simp; omega), Below.heap_alloc _ _ _ z5]; exact q5)
                obtain ⟨s1, s2, s3, s4, s5, s6, s7, s8⟩ := blk4N q7)
             | fail)
          all_goals
            go_wp2; have z6 := hk3.size; have z8 : w2.drew.heap.size = w2.heap.size := rfl; (have K3 : Kept (· ≠ br) w3 w4 := ((Kept.refl _ _).alloc _).trans ⟨hb4.os, hb4.tape, hb4.output, hb4.size, fun k hk _ => hb4.block k hk⟩); (have z : w4.heap[w3.heap.size]? = some (.cells #[.int .i64 k, .string n, .slice sw ws.length cw, .slice sk ks.length ck, .int .i64 k', .string n', .slice sw' ws'.length cw', .slice sk' ks'.length ck'] 25 (0, 0)) := (hb4.block _ (by simp)).trans (blk_new _ _)); have z9 := lt_of_block q6; have K : Kept (· ≠ br) w w4 := KK.trans (hk3.trans K3); have K2 : Kept (· ≠ br) wr w4 := hk2.drew.trans (hk3.trans K3); have hs4 := hk2.size
            go_roundg r3.length
            case measure => omega
            case rel =>
              refine ⟨6, e0, [], [.mk k n ws ks, .mk k' n' ws' ks'], none, 0, some ⟨w3.heap.size, 0, none⟩, 2, a3, r3, rfl, ha3, ?_, ?_, ?_, ?_, ?_, ?_, ?_⟩
              · exact ((((hr3.alloc _ |>.same (hb4.block _ (by have := hr3.lt; simp; omega))).other hn1 _).other hn1 _).other hn1 _).other hn1 _
              · rw [xsize_two]; omega
              · exact (((K.setCell (fun h => by simp at h; omega) _).setCell (fun h => by simp at h; omega) _).setCell (fun h => by simp at h; omega) _).setCell (fun h => by simp at h; omega) _
              · rw [Below.heap_setCell _ _ _ _ d1, Below.heap_setCell _ _ _ _ d1, Below.heap_setCell _ _ _ _ d1, Below.heap_setCell _ _ _ _ d1]; exact q6
              · exact setx4 q7 _ _ _ _
              · refine EQ.two (T := 25) (by decide) ?_ ⟨by omega, by omega⟩ (EQ.move (fun b hb1 hb2 => ⟨?_, hb2⟩) _ _ hrep) (EQ.move (fun b hb1 hb2 => ⟨?_, by omega⟩) _ _ hrep3)
                · rw [Below.heap_setCell _ _ _ _ (by simp; omega), Below.heap_setCell _ _ _ _ (by simp; omega), Below.heap_setCell _ _ _ _ (by simp; omega), Below.heap_setCell _ _ _ _ (by simp; omega)]; exact z
                · rw [Below.heap_setCell _ _ _ _ (by simp; omega), Below.heap_setCell _ _ _ _ (by simp; omega), Below.heap_setCell _ _ _ _ (by simp; omega), Below.heap_setCell _ _ _ _ (by simp; omega)]
                  (exact K2.block b hb1 (by omega))
                · rw [Below.heap_setCell _ _ _ _ (by simp; omega), Below.heap_setCell _ _ _ _ (by simp; omega), Below.heap_setCell _ _ _ _ (by simp; omega), Below.heap_setCell _ _ _ _ (by simp; omega)]
                  (exact K3.block b hb1 (by omega))
              · exact fun x hx' => HC.out x (ev_rands_ok hcl hx hx')
  · exact ⟨rfl, ((Kept.refl _ _).alloc _).trans hk1, Or.inr ⟨r1, a1, ev_rand_bad hev, rfl, ha1⟩⟩
set_option maxHeartbeats 2000000 in
theorem ror_step (t : ByteArray) (ht : t.size ≤ 20000) (m : Nat) (ihN : ExReads rAnd 198 t m) : ExReads rOr 175 t m := by
  intro br a l w ha h hm; (have hne : w.heap.size ≠ br := by have := h.lt; omega)
  go_enter Tryz.func175, Tryz.ntmps175
  go_wp2_with (first
    | (go_at_call 198
       refine (ihN br a l _ ha (h.alloc _) hm).mono ?_; rintro e w1 ⟨hk1, ⟨⟨k, n, ws, ks⟩, r1, v, a1, hev, rfl, hrep, ha1, hr1, hb1⟩ | ⟨r1, a1, hev, rfl, ha1⟩⟩
       all_goals try (obtain ⟨sw, cw, sk, ck, rfl, -⟩ := EQ.def.1 hrep))
    | fail)
  · have z0 := hk1.size
    simp at z0; have zb := h.lt; (have hn1 : w1.heap.size ≠ br := by omega); (have d1 : ¬ w.heap.size = w1.heap.size := by omega); (have d2 : ¬ w1.heap.size = w.heap.size := by omega)
    go_loopg [] r1.length (fun g wr => ∃ (k : Int) (n : ByteArray) (ws : List Wd) (ks : List Ex) (sw : Option Addr) (cw : Nat) (sk : Option Addr) (ck a' : Nat) (l' : List UInt8), l'.length = g ∧ At t a' l' ∧ TS br wr t a' ∧ (Ex.mk k n ws ks).size + l'.length ≤ l.length ∧ Kept (· ≠ br) w wr ∧ wr.heap[w.heap.size]? = some (.cells #[.int .i64 0, .string ⟨#[]⟩, .slice none 0 0, .slice none 0 0] 25 (0, 0)) ∧ wr.heap[w1.heap.size]? = some (.cells #[.int .i64 k, .string n, .slice sw ws.length cw, .slice sk ks.length ck] 25 (0, 0)) ∧ EQ wr (fun b => w.heap.size + 1 ≤ b ∧ b ≠ w1.heap.size) (.mk k n ws ks) (.agg #[.int .i64 k, .string n, .slice sw ws.length cw, .slice sk ks.length ck]) ∧ Hid (∀ x, EvR (rOrs · (.mk k n ws ks) l') x → EvR (rOr · l) x))
    case atStart =>
      (refine ⟨k, n, ws, ks, sw, cw, sk, ck, a1, r1, rfl, ha1, hr1.alloc _, hb1, (((Kept.refl _ _).alloc _).trans hk1).alloc _, ?_, blk_new _ _, ?_, fun x hx => ev_ror_ok hev hx⟩)
      · rw [Below.heap_alloc _ _ _ (by omega)]; exact (hk1.block _ (by simp) hne).trans (blk_new _ _)
      · refine EQ.move (fun b hb1 hb2 => ⟨Below.heap_alloc _ _ _ hb1, ?_⟩) _ _ hrep
        simp at hb2; (exact ⟨hb2, by omega⟩)
    case round =>
      clear hrep hev ha1 hr1 hb1; obtain ⟨k, n, ws, ks, sw, cw, sk, ck, a1, r1, hg, ha1, hr1, hb1, hkw, q0, q1, hrep, HC⟩ := hrel; have z2 := lt_of_block q0; have z3 := lt_of_block q1
      rcases hcl : takeS [124] r1 with _ | r2
      · go_wp2_with (first
          | (go_at_call_of 176 (Value.string ⟨#[124]⟩)
             refine (takeT_no br t ⟨#[124]⟩ ht _ a1 r1 ha1 hr1 hcl).mono ?_; rintro e w2 ⟨rfl, ⟨a2, ha2, hr2⟩, hk2⟩; have q2 := (hk2.block _ z2 hne).trans q0; have q3 := (hk2.block _ z3 hn1).trans q1; obtain ⟨k1, k2, k3, k4, k5, k6, k7, k8⟩ := blk4N q2
             obtain ⟨g1, g2, g3, g4, g5, g6, g7, g8⟩ := blk4N q3)
          | fail)
        have z5 := skipB_length r1; have K : Kept (· ≠ br) w w2 := hkw.trans hk2; (refine bodyPost_ret (v := .agg #[.int .i64 k, .string n, .slice sw ws.length cw, .slice sk ks.length ck]) (by simp [results, Tryz.results175, go_sem, k1, k2, k3, k4]) rfl ⟨?_, Or.inl ⟨.mk k n ws ks, skipB r1, _, a2, HC.out _ (ev_rors_no hcl), rfl, ?_, ha2, ?_, by omega⟩⟩)
        · exact (((K.setCell (fun h => by simp at h) _).setCell (fun h => by simp at h) _).setCell (fun h => by simp at h) _).setCell (fun h => by simp at h) _
        · refine EQ.move (fun b hb1 hb2 => ⟨?_, by omega⟩) _ _ hrep
          (rw [Below.heap_setCell _ _ _ _ (by simp; omega), Below.heap_setCell _ _ _ _ (by simp; omega), Below.heap_setCell _ _ _ _ (by simp; omega), Below.heap_setCell _ _ _ _ (by simp; omega)]); (exact hk2.block b hb1 (by omega))
        · exact (((hr2.other hne _).other hne _).other hne _).other hne _
      · have hll := takeS_len hcl
        simp only [List.length_cons, List.length_nil] at hll
        go_wp2_with (first
          | (go_at_call_of 176 (Value.string ⟨#[124]⟩)
             (refine (takeT_yes br t ⟨#[124]⟩ ht (by decide) _ a1 r1 r2 ha1 hr1 hcl).mono ?_)
             rintro e w2 ⟨rfl, ⟨a2, ha2, hr2⟩, hk2⟩)
          | fail)
        have q2 := (hk2.block _ z2 hne).trans q0; have q3 := (hk2.block _ z3 hn1).trans q1; have y2 := lt_of_block q2; have y3 := lt_of_block q3; have KK : Kept (· ≠ br) w w2.drew := (hkw.trans hk2).drew; obtain ⟨g1, g2, g3, g4, g5, g6, g7, g8⟩ := blk4N q3; obtain ⟨x, hx, -⟩ := rAnd_tot r2
        cases x with
        | bad r3 =>
          (refine wp_region_any (by kernel_rfl) ?_)
          change wpAny _ _ _ _ _ _ _ (World.drew _)
          (refine wpAny_take (i := 1) (v := ?_) rfl (by kernel_rfl) (by kernel_rfl) (by kernel_rfl) (fun _ _ _ h => h) (Or.inl ⟨by rfl, ?_⟩) ?_)
          rotate_left
          · intro w; go_simp; with_reducible rfl
          (refine wpAny_ready (rs := [0, 2]) (by kernel_rfl) (by simp) ?_); (refine AllReady.cons rfl (fun K hK => ?_) (AllReady.cons rfl (fun K hK => ?_) AllReady.nil))
          · go_simp
            refine hK _ _ ?_; clear hK K; (refine wpAny_ready (rs := [2]) (by kernel_rfl) (by simp) ?_); (refine AllReady.cons rfl (fun K hK => ?_) AllReady.nil); go_simp; (refine (ihN br a2 r2 w2.drew ha2 (hr2.same rfl) (by omega)).mono ?_); intro e w3 hp3; obtain ⟨hk3, a3, rfl, ha3⟩ := hp3.bad hx; exact ⟨rfl, KK.trans hk3, Or.inr ⟨r3, a3, HC.out _ (ev_rors_bad hcl hx), rfl, ha3⟩⟩
          · go_simp
            (refine (ihN br a2 r2 w2.drew ha2 (hr2.same rfl) (by omega)).mono ?_); intro e w3 hp3; obtain ⟨hk3, a3, rfl, ha3⟩ := hp3.bad hx
            exact ⟨rfl, KK.trans hk3, Or.inr ⟨r3, a3, HC.out _ (ev_rors_bad hcl hx), rfl, ha3⟩⟩
        | ok g r3 =>
          obtain ⟨k', n', ws', ks'⟩ := g
          go_region_with
            (first
             | (go_at_call 198
                (refine (ihN br a2 r2 w2.drew ha2 (hr2.same rfl) (by omega)).mono ?_); intro e w3 hp3; obtain ⟨hk3, v, a3, rfl, hrep3, ha3, hr3, hb3⟩ := hp3.ok hx; obtain ⟨sw', cw', sk', ck', rfl, -⟩ := EQ.def.1 hrep3; have q4 := (hk3.block _ y2 hne).trans q2; have q5 := (hk3.block _ y3 hn1).trans q3
                obtain ⟨p1, p2, p3, p4, p5, p6, p7, p8⟩ := blk4N q5)
             | (go_at_call 177
                refine (xnode_any _ _ _ _ _).mono ?_; rintro e w4 ⟨rfl, hb4⟩; have z4 := lt_of_block q4; have z5 := lt_of_block q5
                have q6 : w4.heap[w.heap.size]? = some (.cells #[.int .i64 0, .string ⟨#[]⟩, .slice none 0 0, .slice none 0 0] 25 (0, 0)) := by
                  (rw [hb4.block _ (by simp; omega), Below.heap_alloc _ _ _ z4]; exact q4)
                have q7 : w4.heap[w1.heap.size]? = some (.cells #[.int .i64 k, .string n, .slice sw ws.length cw, .slice sk ks.length ck] 25 (0, 0)) := by
                  (rw [hb4.block _ (by simp; omega), Below.heap_alloc _ _ _ z5]; exact q5)
                obtain ⟨s1, s2, s3, s4, s5, s6, s7, s8⟩ := blk4N q7)
             | fail)
          all_goals
            go_wp2; have z6 := hk3.size; have z8 : w2.drew.heap.size = w2.heap.size := rfl; (have K3 : Kept (· ≠ br) w3 w4 := ((Kept.refl _ _).alloc _).trans ⟨hb4.os, hb4.tape, hb4.output, hb4.size, fun k hk _ => hb4.block k hk⟩); (have z : w4.heap[w3.heap.size]? = some (.cells #[.int .i64 k, .string n, .slice sw ws.length cw, .slice sk ks.length ck, .int .i64 k', .string n', .slice sw' ws'.length cw', .slice sk' ks'.length ck'] 25 (0, 0)) := (hb4.block _ (by simp)).trans (blk_new _ _)); have z9 := lt_of_block q6; have K : Kept (· ≠ br) w w4 := KK.trans (hk3.trans K3); have K2 : Kept (· ≠ br) wr w4 := hk2.drew.trans (hk3.trans K3); have hs4 := hk2.size
            go_roundg r3.length
            case measure => omega
            case rel =>
              refine ⟨7, e0, [], [.mk k n ws ks, .mk k' n' ws' ks'], none, 0, some ⟨w3.heap.size, 0, none⟩, 2, a3, r3, rfl, ha3, ?_, ?_, ?_, ?_, ?_, ?_, ?_⟩
              · exact ((((hr3.alloc _ |>.same (hb4.block _ (by have := hr3.lt; simp; omega))).other hn1 _).other hn1 _).other hn1 _).other hn1 _
              · rw [xsize_two]; omega
              · exact (((K.setCell (fun h => by simp at h; omega) _).setCell (fun h => by simp at h; omega) _).setCell (fun h => by simp at h; omega) _).setCell (fun h => by simp at h; omega) _
              · rw [Below.heap_setCell _ _ _ _ d1, Below.heap_setCell _ _ _ _ d1, Below.heap_setCell _ _ _ _ d1, Below.heap_setCell _ _ _ _ d1]; exact q6
              · exact setx4 q7 _ _ _ _
              · refine EQ.two (T := 25) (by decide) ?_ ⟨by omega, by omega⟩ (EQ.move (fun b hb1 hb2 => ⟨?_, hb2⟩) _ _ hrep) (EQ.move (fun b hb1 hb2 => ⟨?_, by omega⟩) _ _ hrep3)
                · rw [Below.heap_setCell _ _ _ _ (by simp; omega), Below.heap_setCell _ _ _ _ (by simp; omega), Below.heap_setCell _ _ _ _ (by simp; omega), Below.heap_setCell _ _ _ _ (by simp; omega)]; exact z
                · rw [Below.heap_setCell _ _ _ _ (by simp; omega), Below.heap_setCell _ _ _ _ (by simp; omega), Below.heap_setCell _ _ _ _ (by simp; omega), Below.heap_setCell _ _ _ _ (by simp; omega)]
                  (exact K2.block b hb1 (by omega))
                · rw [Below.heap_setCell _ _ _ _ (by simp; omega), Below.heap_setCell _ _ _ _ (by simp; omega), Below.heap_setCell _ _ _ _ (by simp; omega), Below.heap_setCell _ _ _ _ (by simp; omega)]
                  (exact K3.block b hb1 (by omega))
              · exact fun x hx' => HC.out x (ev_rors_ok hcl hx hx')
  · exact ⟨rfl, ((Kept.refl _ _).alloc _).trans hk1, Or.inr ⟨r1, a1, ev_ror_bad hev, rfl, ha1⟩⟩
end Go.Proofs.YtheiikkeelbjnajGreat
/- Walks: a reader's 'then' in first order. -/
namespace Go.Proofs.YtheiikkeelbjnajGreat
open Go.RowKit Go.Sort

set_option maxHeartbeats 2000000 in
theorem rthen_step (t : ByteArray) (ht : t.size ≤ 20000) (m : Nat) (ihO : ExReads rOr 175 t (m + 1)) (ihT : ExReads rThen 139 t m) : ExReads rThen 139 t (m + 1) := by
  intro br a l w ha h hm; (have hne : w.heap.size ≠ br := by have := h.lt; omega)
  go_enter Tryz.func139, Tryz.ntmps139
  go_wp2_with (first
    | (go_at_call 175
       refine (ihO br a l _ ha (h.alloc _) hm).mono ?_; rintro e w1 ⟨hk1, ⟨⟨k, n, ws, ks⟩, r1, v, a1, hev, rfl, hrep, ha1, hr1, hb1⟩ | ⟨r1, a1, hev, rfl, ha1⟩⟩
       all_goals try (obtain ⟨sw, cw, sk, ck, rfl, -⟩ := EQ.def.1 hrep; rcases hcl : takeS [45, 62] r1 with _ | r2))
    | (go_at_call_of 176 (Value.string ⟨#[45, 62]⟩)
       (refine (takeT_yes br t ⟨#[45, 62]⟩ ht (by decide) _ a1 r1 r2 ha1 (hr1.alloc _) hcl).mono ?_); rintro e w2 ⟨rfl, ⟨a2, ha2, hr2⟩, hk2⟩; (have hn1 : w1.heap.size ≠ br := by have := hr1.lt; omega)
       have q2 : w2.heap[w.heap.size]? = some (.cells #[.int .i64 0, .string ⟨#[]⟩, .slice none 0 0, .slice none 0 0] 25 (0, 0)) := by
         have z1 := hk1.size; simp at z1; (rw [hk2.block _ (by simp; omega) hne, Below.heap_alloc _ _ _ (by omega)]); (exact (hk1.block _ (by simp) hne).trans (blk_new _ _))
       have q3 : w2.heap[w1.heap.size]? = some (.cells #[.int .i64 k, .string n, .slice sw ws.length cw, .slice sk ks.length ck] 25 (0, 0)) := (hk2.block _ (by simp) hn1).trans (blk_new _ _))
    | (go_at_call_of 176 (Value.string ⟨#[45, 62]⟩)
       refine (takeT_no br t ⟨#[45, 62]⟩ ht _ a1 r1 ha1 (hr1.alloc _) hcl).mono ?_; rintro e w2 ⟨rfl, ⟨a2, ha2, hr2⟩, hk2⟩; (have hn1 : w1.heap.size ≠ br := by have := hr1.lt; omega)
       have q2 : w2.heap[w.heap.size]? = some (.cells #[.int .i64 0, .string ⟨#[]⟩, .slice none 0 0, .slice none 0 0] 25 (0, 0)) := by
         have z1 := hk1.size; simp at z1; (rw [hk2.block _ (by simp; omega) hne, Below.heap_alloc _ _ _ (by omega)]); (exact (hk1.block _ (by simp) hne).trans (blk_new _ _))
       (have q3 : w2.heap[w1.heap.size]? = some (.cells #[.int .i64 k, .string n, .slice sw ws.length cw, .slice sk ks.length ck] 25 (0, 0)) := (hk2.block _ (by simp) hn1).trans (blk_new _ _)); obtain ⟨k1, k2, k3, k4, k5, k6, k7, k8⟩ := blk4N q2
       obtain ⟨g1, g2, g3, g4, g5, g6, g7, g8⟩ := blk4N q3)
    | fail)
  · have z1 := lt_of_block q2
    have z2 := hk1.size; have zb := h.lt; have z5 := skipB_length r1; simp at z2; have K2 : Kept (· ≠ br) w1 w2 := ((Kept.refl _ _).alloc _).trans hk2; have K : Kept (· ≠ br) w w2 := (((Kept.refl _ _).alloc _).trans hk1).trans K2; (refine bodyPost_ret (v := .agg #[.int .i64 k, .string n, .slice sw ws.length cw, .slice sk ks.length ck]) (by simp [results, Tryz.results139, go_sem, k1, k2, k3, k4]) rfl ⟨?_, Or.inl ⟨.mk k n ws ks, skipB r1, _, a2, ev_rth_no hev hcl, rfl, ?_, ha2, ?_, by omega⟩⟩)
    · exact (((K.setCell (fun h => by simp at h) _).setCell (fun h => by simp at h) _).setCell (fun h => by simp at h) _).setCell (fun h => by simp at h) _
    · refine EQ.move (fun b hb1 hb2 => ⟨?_, by simp at hb2; omega⟩) _ _ hrep
      simp at hb2; (rw [Below.heap_setCell _ _ _ _ (by simp; omega), Below.heap_setCell _ _ _ _ (by simp; omega), Below.heap_setCell _ _ _ _ (by simp; omega), Below.heap_setCell _ _ _ _ (by simp; omega)]); (exact K2.block b hb1 (by omega))
    · exact (((hr2.other hne _).other hne _).other hne _).other hne _
  · have hll := takeS_len hcl
    simp only [List.length_cons, List.length_nil] at hll; have z1 := hk1.size; simp at z1; have z2 := lt_of_block q2; have z3 := lt_of_block q3; obtain ⟨k1, k2, k3, k4, k5, k6, k7, k8⟩ := blk4N q2; obtain ⟨g1, g2, g3, g4, g5, g6, g7, g8⟩ := blk4N q3; (have d1 : ¬ w.heap.size = w1.heap.size := by omega); (have d2 : ¬ w1.heap.size = w.heap.size := by omega); have KK : Kept (· ≠ br) w w2.drew := ((((Kept.refl _ _).alloc _).trans hk1).trans (((Kept.refl _ _).alloc _).trans hk2)).drew; obtain ⟨x, hx, -⟩ := rThen_tot r2
    cases x with
    | bad r3 =>
      (refine wp_region_any (by kernel_rfl) ?_)
      change wpAny _ _ _ _ _ _ _ (World.drew _)
      (refine wpAny_take (i := 1) (v := ?_) rfl (by kernel_rfl) (by kernel_rfl) (by kernel_rfl) (fun _ _ _ h => h) (Or.inl ⟨by rfl, ?_⟩) ?_)
      rotate_left
      · intro w; go_simp; with_reducible rfl
      (refine wpAny_ready (rs := [0, 2]) (by kernel_rfl) (by simp) ?_); (refine AllReady.cons rfl (fun K hK => ?_) (AllReady.cons rfl (fun K hK => ?_) AllReady.nil))
      · go_simp
        refine hK _ _ ?_; clear hK K; (refine wpAny_ready (rs := [2]) (by kernel_rfl) (by simp) ?_); (refine AllReady.cons rfl (fun K hK => ?_) AllReady.nil); go_simp; (refine (ihT br a2 r2 w2.drew ha2 (hr2.same rfl) (by omega)).mono ?_); intro e w3 hp3; obtain ⟨hk3, a3, rfl, ha3⟩ := hp3.bad hx; exact ⟨rfl, KK.trans hk3, Or.inr ⟨r3, a3, ev_rth_bad2 hev hcl hx, rfl, ha3⟩⟩
      · go_simp
        (refine (ihT br a2 r2 w2.drew ha2 (hr2.same rfl) (by omega)).mono ?_); intro e w3 hp3; obtain ⟨hk3, a3, rfl, ha3⟩ := hp3.bad hx
        exact ⟨rfl, KK.trans hk3, Or.inr ⟨r3, a3, ev_rth_bad2 hev hcl hx, rfl, ha3⟩⟩
    | ok g r3 =>
      obtain ⟨k', n', ws', ks'⟩ := g
      go_region_held3 (fun w' => w'.cell? ⟨w1.heap.size, 0, none⟩ = some (.int .i64 k) ∧ w'.cell? ⟨w1.heap.size, 1, none⟩ = some (.string n) ∧ w'.cell? ⟨w1.heap.size, 2, none⟩ = some (.slice sw ws.length cw) ∧ w'.cell? ⟨w1.heap.size, 3, none⟩ = some (.slice sk ks.length ck)) (go_keep)
        (first
         | (go_at_call 139
            (refine (ihT br a2 r2 w2.drew ha2 (hr2.same rfl) (by omega)).mono ?_); intro e w3 hp3; obtain ⟨hk3, v, a3, rfl, hrep3, ha3, hr3, hb3⟩ := hp3.ok hx; obtain ⟨sw', cw', sk', ck', rfl, -⟩ := EQ.def.1 hrep3; have q4 := (hk3.block _ z2 hne).trans q2; have q5 := (hk3.block _ z3 hn1).trans q3; obtain ⟨m1, m2, m3, m4, m5, m6, m7, m8⟩ := blk4N q4
            obtain ⟨p1, p2, p3, p4, p5, p6, p7, p8⟩ := blk4N q5)
         | (go_at_call 177
            refine (xnode_any _ _ _ _ _).mono ?_; rintro e w4 ⟨rfl, hb4⟩; have z4 := lt_of_block q4; have z5 := lt_of_block q5
            have q6 : w4.heap[w.heap.size]? = some (.cells #[.int .i64 0, .string ⟨#[]⟩, .slice none 0 0, .slice none 0 0] 25 (0, 0)) := by
              (rw [hb4.block _ (by simp; omega), Below.heap_alloc _ _ _ z4]; exact q4)
            have q7 : w4.heap[w1.heap.size]? = some (.cells #[.int .i64 k, .string n, .slice sw ws.length cw, .slice sk ks.length ck] 25 (0, 0)) := by
              (rw [hb4.block _ (by simp; omega), Below.heap_alloc _ _ _ z5]; exact q5)
            obtain ⟨o1, o2, o3, o4, o5, o6, o7, o8⟩ := blk4N q6
            obtain ⟨s1, s2, s3, s4, s5, s6, s7, s8⟩ := blk4N q7)
         | fail)
      go_wp2; have z6 := hk3.size; have zb := h.lt; have z8 : w2.drew.heap.size = w2.heap.size := rfl; have hs4 := hk2.size; simp at hs4; (have K3 : Kept (· ≠ br) w3 w4 := ((Kept.refl _ _).alloc _).trans ⟨hb4.os, hb4.tape, hb4.output, hb4.size, fun k hk _ => hb4.block k hk⟩); (have z : w4.heap[w3.heap.size]? = some (.cells #[.int .i64 k, .string n, .slice sw ws.length cw, .slice sk ks.length ck, .int .i64 k', .string n', .slice sw' ws'.length cw', .slice sk' ks'.length ck'] 25 (0, 0)) := (hb4.block _ (by simp)).trans (blk_new _ _)); have z9 := lt_of_block q6; have K : Kept (· ≠ br) w w4 := KK.trans (hk3.trans K3); have K2 : Kept (· ≠ br) w1 w4 := (((Kept.refl _ _).alloc _).trans hk2).drew.trans (hk3.trans K3); (refine bodyPost_ret (v := .agg #[.int .i64 8, .string ⟨#[]⟩, .slice none 0 0, .slice (some ⟨w3.heap.size, 0, none⟩) 2 2]) (by simp [results, Tryz.results139, go_sem, o1, o2, o3, o4]) rfl ⟨?_, Or.inl ⟨.mk 8 e0 [] [.mk k n ws ks, .mk k' n' ws' ks'], r3, _, a3, ev_rth_ok hev hcl hx, rfl, ?_, ha3, ?_, ?_⟩⟩)
      · exact (((K.setCell (fun h => by simp at h) _).setCell (fun h => by simp at h) _).setCell (fun h => by simp at h) _).setCell (fun h => by simp at h) _
      · refine EQ.two (T := 25) (by decide) ?_ (by omega) (EQ.move (fun b hb1 hb2 => ⟨?_, by simp at hb2; omega⟩) _ _ hrep) (EQ.move (fun b hb1 hb2 => ⟨?_, by omega⟩) _ _ hrep3)
        · rw [Below.heap_setCell _ _ _ _ (by simp; omega), Below.heap_setCell _ _ _ _ (by simp; omega), Below.heap_setCell _ _ _ _ (by simp; omega), Below.heap_setCell _ _ _ _ (by simp; omega)]; exact z
        · simp at hb2
          (rw [Below.heap_setCell _ _ _ _ (by simp; omega), Below.heap_setCell _ _ _ _ (by simp; omega), Below.heap_setCell _ _ _ _ (by simp; omega), Below.heap_setCell _ _ _ _ (by simp; omega)]); (exact K2.block b hb1 (by omega))
        · rw [Below.heap_setCell _ _ _ _ (by simp; omega), Below.heap_setCell _ _ _ _ (by simp; omega), Below.heap_setCell _ _ _ _ (by simp; omega), Below.heap_setCell _ _ _ _ (by simp; omega)]
          (exact K3.block b hb1 (by omega))
      · exact ((((hr3.alloc _ |>.same (hb4.block _ (by have := hr3.lt; simp; omega))).other hne _).other hne _).other hne _).other hne _
      · rw [xsize_two]; omega
  · exact ⟨rfl, ((Kept.refl _ _).alloc _).trans hk1, Or.inr ⟨r1, a1, ev_rth_bad hev, rfl, ha1⟩⟩
theorem rread_all (t : ByteArray) (ht : t.size ≤ 20000) : ∀ m, ExReads rNot 205 t m ∧ ExReads rThen 139 t m
  | 0 => ⟨fun _ _ _ _ _ _ h => absurd h (Nat.not_lt_zero _), fun _ _ _ _ _ _ h => absurd h (Nat.not_lt_zero _)⟩
  | m + 1 => by
    obtain ⟨h1, h2⟩ := rread_all t ht m; have h3 := rnot_step t ht m h1 h2; exact ⟨h3, rthen_step t ht m (ror_step t ht (m + 1) (rand_step t ht (m + 1) h3)) h2⟩
/-- A whole expression is read, whatever the text. -/
theorem thenRead_any (t : ByteArray) (ht : t.size ≤ 20000) (br a : Nat) (l : List UInt8) (w : World) (ha : At t a l) (h : TS br w t a) :
    Calls Tryz.prog 139 #[.pointer (some ⟨br, 0, none⟩)] w (ExPost rThen br t l w) :=
  (rread_all t ht (l.length + 1)).2 br a l w ha h (Nat.lt_succ_self _)
end Go.Proofs.YtheiikkeelbjnajGreat
/- Walks: a whole text of first order that is read. -/
namespace Go.Proofs.YtheiikkeelbjnajGreat
open Go.RowKit Go.Sort

/-- What reading the whole text t answers: an expression, or the place where it is wrong. -/
inductive XOut where
  | ok (x : Ex)
  | bad (a : Nat)
def xout (n : Nat) : Rd Ex → XOut
  | .ok x r => if skipB r = [] then .ok x else .bad (n - (skipB r).length)
  | .bad r => .bad (n - r.length)
/-- What reading the whole leaves. -/
def XwPost (br : Nat) (t : ByteArray) (o : XOut) (w : World) (e : Ending) (w' : World) : Prop :=
  Kept (· ≠ br) w w' ∧ match o with
  | .ok x => ∃ v, e = .returned v ∧ EQ w' (w.heap.size ≤ ·) x v ∧ x.size ≤ t.size
  | .bad a => e = .panicked (stopC 1 (a : Nat))
set_option maxHeartbeats 1000000 in
theorem xwhole_any (br : Nat) (t : ByteArray) (ht : t.size ≤ 20000) (w : World) (a : Nat) (l : List UInt8) (ha : At t a l) (h : TS br w t a) (y : Rd Ex) (hy : EvR (rThen · l) y) :
    Calls Tryz.prog 91 #[.pointer (some ⟨br, 0, none⟩)] w (XwPost br t (xout t.size y) w) := by
  (have hne : w.heap.size ≠ br := by have := h.lt; omega)
  cases y with
  | bad r =>
    go_enter Tryz.func91, Tryz.ntmps91
    go_wp2_with (first
      | (go_at_call 139
         refine (thenRead_any t ht br a l _ ha (h.alloc _)).mono ?_; intro e w1 hp1
         obtain ⟨hk1, a1, rfl, ha1⟩ := hp1.bad hy)
      | fail)
    exact ⟨rfl, ((Kept.refl _ _).alloc _).trans hk1, by rw [ha1.posS]; rfl⟩
  | ok x r =>
    obtain ⟨k, n, ws, ks⟩ := x; by_cases hs : skipB r = []
    · rw [show xout t.size (.ok (.mk k n ws ks) r) = .ok (.mk k n ws ks) by simp only [xout, hs, if_true]]
      go_enter Tryz.func91, Tryz.ntmps91
      go_wp2_with (first
        | (go_at_call 139
           refine (thenRead_any t ht br a l _ ha (h.alloc _)).mono ?_; intro e w1 hp1; obtain ⟨hk1, v, a1, rfl, hrep, ha1, hr1, hb1⟩ := hp1.ok hy
           obtain ⟨sw, cw, sk, ck, rfl, -⟩ := EQ.def.1 hrep)
        | (go_at_call 140
           refine (endT_yes br t ht _ a1 r ha1 (hr1.alloc _) hs).mono ?_; rintro e w2 ⟨rfl, hk2⟩; (have hn1 : w1.heap.size ≠ br := by have := hr1.lt; omega)
           have q2 : w2.heap[w.heap.size]? = some (.cells #[.int .i64 0, .string ⟨#[]⟩, .slice none 0 0, .slice none 0 0] 25 (0, 0)) := by
             have z1 := hk1.size; simp at z1; (rw [hk2.block _ (by simp; omega) hne, Below.heap_alloc _ _ _ (by omega)]); (exact (hk1.block _ (by simp) hne).trans (blk_new _ _))
           (have q3 : w2.heap[w1.heap.size]? = some (.cells #[.int .i64 k, .string n, .slice sw ws.length cw, .slice sk ks.length ck] 25 (0, 0)) := (hk2.block _ (by simp) hn1).trans (blk_new _ _)); obtain ⟨k1, k2, k3, k4, k5, k6, k7, k8⟩ := blk4N q2
           obtain ⟨g1, g2, g3, g4, g5, g6, g7, g8⟩ := blk4N q3)
        | fail)
      have z1 := lt_of_block q2; have z2 := hk1.size; have zb := h.lt; have hla := ha.len; simp at z2; have K2 : Kept (· ≠ br) w1 w2 := ((Kept.refl _ _).alloc _).trans hk2; have K : Kept (· ≠ br) w w2 := (((Kept.refl _ _).alloc _).trans hk1).trans K2; (refine bodyPost_ret (v := .agg #[.int .i64 k, .string n, .slice sw ws.length cw, .slice sk ks.length ck]) (by simp [results, Tryz.results91, go_sem, k1, k2, k3, k4]) rfl ⟨?_, _, rfl, ?_, by omega⟩)
      · exact (((K.setCell (fun h => by simp at h) _).setCell (fun h => by simp at h) _).setCell (fun h => by simp at h) _).setCell (fun h => by simp at h) _
      · refine EQ.move (fun b hb1 hb2 => ⟨?_, by simp at hb2; omega⟩) _ _ hrep
        simp at hb2; (rw [Below.heap_setCell _ _ _ _ (by simp; omega), Below.heap_setCell _ _ _ _ (by simp; omega), Below.heap_setCell _ _ _ _ (by simp; omega), Below.heap_setCell _ _ _ _ (by simp; omega)]); (exact K2.block b hb1 (by omega))
    · rw [show xout t.size (.ok (.mk k n ws ks) r) = .bad (t.size - (skipB r).length) by simp only [xout, hs, if_false]]
      go_enter Tryz.func91, Tryz.ntmps91
      go_wp2_with (first
        | (go_at_call 139
           refine (thenRead_any t ht br a l _ ha (h.alloc _)).mono ?_; intro e w1 hp1; obtain ⟨hk1, v, a1, rfl, hrep, ha1, hr1, hb1⟩ := hp1.ok hy
           obtain ⟨sw, cw, sk, ck, rfl, -⟩ := EQ.def.1 hrep)
        | (go_at_call 140
           refine (endT_no br t ht _ a1 r ha1 (hr1.alloc _) hs).mono ?_
           rintro e w2 ⟨rfl, hk2⟩)
        | fail)
      exact ⟨rfl, ((((Kept.refl _ _).alloc _).trans hk1).alloc _).trans hk2, rfl⟩
set_option maxHeartbeats 1000000 in
theorem scanNew_any (t : ByteArray) (w : World) :
    Calls Tryz.prog 90 #[.string t] w fun e w' => e = .returned (.agg #[.string t, .int .i64 0]) ∧ Below w.heap.size w w' := by
  go_enter Tryz.func90, Tryz.ntmps90
  go_wp2; (refine bodyPost_ret (v := .agg #[.string t, .int .i64 0]) (by simp [results, Tryz.results90, go_sem]) rfl ⟨rfl, ?_⟩); exact (Below.refl _ w).alloc (Nat.le_refl _) _
end Go.Proofs.YtheiikkeelbjnajGreat
/- Walks: Parse's own function, which is caught. -/
namespace Go.Proofs.YtheiikkeelbjnajGreat
open Go.RowKit Go.Sort Go.Maps Go.WideMaps

theorem xparse1_in (cap : Array Value) (w : World) : (callFunc 89 cap).run Tryz.prog w = .ok (.enter 89 cap) w := by
  simp [go_sem]
/-- What Parse's function leaves, where the text reads: it stops, or the expression lies in the block be. -/
def Xp2 (be : Nat) (w : World) (x : Ex) (c : CkR) (e : Ending) (w' : World) : Prop :=
  Kept (· ≠ be) w w' ∧ match c with
  | .bad c a => e = .panicked (stopC c (a : Nat)) ∧ ∃ c0 c1 c2 c3, w'.heap[be]? = some (.cells #[c0, c1, c2, c3] 25 (0, 0))
  | .ok _ _ _ => e = .returned (.tuple #[]) ∧ ∃ c0 c1 c2 c3, w'.heap[be]? = some (.cells #[c0, c1, c2, c3] 25 (0, 0)) ∧ EQ w' (w.heap.size ≤ ·) x (.agg #[c0, c1, c2, c3])
set_option maxRecDepth 10000 in
set_option maxHeartbeats 2000000 in
theorem xparse1_ok (bt be : Nat) (T : TypeId) (t : ByteArray) (ht : t.size ≤ 20000) (w : World) (q0 : w.heap[bt]? = some (.cells #[.string t] T (0, 0))) (q1 : w.heap[be]? = some (.cells #[.int .i64 0, .string ⟨#[]⟩, .slice none 0 0, .slice none 0 0] 25 (0, 0))) (y : Rd Ex) (hy : EvR (rThen · t.data.toList) y) (k : Int) (n : ByteArray) (ws : List Wd) (ks : List Ex) (ho : xout t.size y = .ok (.mk k n ws ks)) (x : CkR) (hx : echk (.mk k n ws ks) 0 (fun _ => none) (fun _ => none) = x) :
    Calls Tryz.prog 89 #[.pointer (some ⟨bt, 0, none⟩), .pointer (some ⟨be, 0, none⟩)] w (Xp2 be w (.mk k n ws ks) x) := by
  have f0 := blk_cell q0 0; simp only [List.getElem?_toArray] at f0; have zb := lt_of_block q1
  go_enter Tryz.func89, Tryz.ntmps89
  go_wp2_with (first
    | (go_at_call 90
       refine (scanNew_any t _).mono ?_
       rintro e w1 ⟨rfl, hb1⟩)
    | (go_at_call 91
       refine (xwhole_any w1.heap.size t ht _ 0 t.data.toList ⟨Nat.zero_le _, rfl⟩ ⟨_, _, blk_new _ _, rfl, rfl⟩ y hy).mono ?_; intro e w2 hp2; rw [ho] at hp2; obtain ⟨hk2, v, rfl, hrep, -⟩ := hp2; obtain ⟨sw, cw, sk, ck, rfl, -⟩ := EQ.def.1 hrep; have z1 := hb1.size; (have B2 : Below w.heap.size w w2 := hb1.trans ((((Kept.refl _ w1).alloc _).trans hk2).below z1 (fun b hb => by show b ≠ w1.heap.size; omega))); have q2 := below_keep B2 q1
       obtain ⟨k1, k2, k3, k4, k5, k6, k7, k8⟩ := blk4N q2)
    | fail)
  (have KF0 : Kept (· ≠ be) w w2 := kept_of_below (ok := (· ≠ be)) (B := w.heap.size) B2 (fun _ h _ => h)); (have HKF0 : Kept (· ≠ be) w ((((w2.setCell ⟨be, 0, none⟩ (.int .i64 k)).setCell ⟨be, 1, none⟩ (.string n)).setCell ⟨be, 2, none⟩ (.slice sw ws.length cw)).setCell ⟨be, 3, none⟩ (.slice sk ks.length ck)) := (((KF0.setCell (fun _ h => h rfl) _).setCell (fun _ h => h rfl) _).setCell (fun _ h => h rfl) _).setCell (fun _ h => h rfl) _); have HQ0 : ((((w2.setCell ⟨be, 0, none⟩ (.int .i64 k)).setCell ⟨be, 1, none⟩ (.string n)).setCell ⟨be, 2, none⟩ (.slice sw ws.length cw)).setCell ⟨be, 3, none⟩ (.slice sk ks.length ck)).heap[be]? = some (.cells #[.int .i64 k, .string n, .slice sw ws.length cw, .slice sk ks.length ck] 25 (0, 0)) := setx4 q2 _ _ _ _; (have HR0 : EQ ((((w2.setCell ⟨be, 0, none⟩ (.int .i64 k)).setCell ⟨be, 1, none⟩ (.string n)).setCell ⟨be, 2, none⟩ (.slice sw ws.length cw)).setCell ⟨be, 3, none⟩ (.slice sk ks.length ck)) (w.heap.size ≤ ·) (.mk k n ws ks) (.agg #[.int .i64 k, .string n, .slice sw ws.length cw, .slice sk ks.length ck]) := EQ.move (fun b hb hok => ⟨by simp at hok; rw [Below.heap_setCell _ _ _ _ (by simp; omega), Below.heap_setCell _ _ _ _ (by simp; omega), Below.heap_setCell _ _ _ _ (by simp; omega), Below.heap_setCell _ _ _ _ (by simp; omega)], by simp at hok; omega⟩) _ _ hrep); generalize ((((w2.setCell ⟨be, 0, none⟩ (.int .i64 k)).setCell ⟨be, 1, none⟩ (.string n)).setCell ⟨be, 2, none⟩ (.slice sw ws.length cw)).setCell ⟨be, 3, none⟩ (.slice sk ks.length ck)) = F at HKF0 HQ0 HR0 ⊢; have HKF : Hid (Kept (· ≠ be) w F) := HKF0; have HQ : Hid (F.heap[be]? = some (.cells #[.int .i64 k, .string n, .slice sw ws.length cw, .slice sk ks.length ck] 25 (0, 0))) := HQ0; have HRp : Hid (EQ F (w.heap.size ≤ ·) (.mk k n ws ks) (.agg #[.int .i64 k, .string n, .slice sw ws.length cw, .slice sk ks.length ck])) := HR0; (have HNc : Hid (∀ W, Calls Tryz.prog 49 #[] W _) := fun W => newCk_any W)
  have HEx : Hid (∀ W bc bp bf, Below F.heap.size F W → New3 F.heap.size bc bp bf → CkA W bc bp bf 0 (fun _ => none) (fun _ => none) → Calls Tryz.prog 92 #[.pointer (some ⟨bc, 0, none⟩), .agg #[.int .i64 k, .string n, .slice sw ws.length cw, .slice sk ks.length ck]] W fun e w' => Kept (T3 bc bp bf) W w' ∧ CkPost bc bp bf x e w') := fun W bc bp bf h1 h2 h3 => by
    rw [← hx]; (exact ckExpr_any _ _ F W bc bp bf 0 _ _ (EQ.rep _ _ HRp.out) h1 h2 h3 (by omega))
  clear HKF0 HQ0 HR0 hx; (refine wp_region_end (by kernel_rfl) [fun v w9 => ∃ bc bp bf, v = .pointer (some ⟨bc, 0, none⟩) ∧ CkA w9 bc bp bf 0 (fun _ => none) (fun _ => none) ∧ New3 F.heap.size bc bp bf, fun v _ => v = (.agg #[.int .i64 k, .string n, .slice sw ws.length cw, .slice sk ks.length ck])] ?_ (by kernel_rfl) (by kernel_rfl) 10 rfl (by kernel_rfl) 2 _ rfl rfl 6 (by kernel_rfl) ?_ ?_)
  · intro p hp
    simp only [List.mem_cons, List.not_mem_nil, or_false] at hp
    rcases hp with rfl | rfl
    · rintro v w1 w2 ⟨bc, bp, bf, e, h1, h2⟩ hb
      exact ⟨bc, bp, bf, e, h1.up hb, h2⟩
    · exact fun _ _ _ h _ => h
  · refine ⟨?_, ?_, trivial⟩
    · intro a wx hB hold hdep K hK
      have HBs := hB.size; clear hold hdep; go_simp; refine (HNc.out wx).mono ?_; rintro _ w9 ⟨bc, bp, bf, rfl, hc, hn, hb9⟩; (have HC9 : Hid (CkA w9 bc bp bf 0 (fun _ => none) (fun _ => none) ∧ New3 F.heap.size bc bp bf) := ⟨hc, by obtain ⟨n1, n2, n3⟩ := hn; exact ⟨by omega, by omega, by omega⟩⟩); clear hc hn; go_simp; exact hK.out _ _ ⟨bc, bp, bf, rfl, HC9.out.1, HC9.out.2⟩ hb9
    · intro a wx hB hold hdep K hK
      have t1 : a.tmps[1]? = some (.pointer (some ⟨be, 0, none⟩)) := hold.2.2 1 rfl; have hqb := blk4L (below_keep hB HQ.out); obtain ⟨f0, f1, f2, f3⟩ := hqb; clear hold hdep; go_simp; exact hK.out _ _ rfl (Below.refl _ _)
  · intro a wx hB hold hgot K hK
    (obtain ⟨A, tA, pA⟩ := hgot 0 _ 7 (by omega) rfl rfl); (obtain ⟨B, tB, pB⟩ := hgot 1 _ 8 (by omega) rfl rfl); have eB : B = (.agg #[.int .i64 k, .string n, .slice sw ws.length cw, .slice sk ks.length ck]) := pB; subst eB; obtain ⟨bc, bp, bf, rfl, hca, hna⟩ := pA; (have HCx : Hid (CkA wx bc bp bf 0 (fun _ => none) (fun _ => none) ∧ New3 F.heap.size bc bp bf) := ⟨hca, hna⟩); have HBx : Hid (Below F.heap.size F wx) := hB; obtain ⟨tm, df⟩ := a; (obtain ⟨ys, hys, htm, rfl⟩ := frame_mid2 7 3 (by kernel_rfl) (Nat.le_of_ble_eq_true rfl) hold); obtain ⟨z1, z2, z3, rfl⟩ := rowFW3 ys hys; simp only [List.take_succ_cons, List.take_zero, List.drop_succ_cons, List.drop_zero, List.cons_append, List.nil_append] at htm; subst htm; obtain rfl : z1 = _ := someInjM tA; obtain rfl : z2 = _ := someInjM tB; clear hys hold hgot tA tB hB hca hna
    cases x with
    | ok s p f =>
      go_simp; refine (HEx.out wx bc bp bf HBx.out HCx.out.2 HCx.out.1).mono ?_; rintro _ w5 ⟨hk5, rfl, -⟩; have HB5 : Hid (Below F.heap.size F w5) := kept3 HBx.out HCx.out.2 hk5; clear hk5; go_simp; refine hK.out _ _ ?_; clear hK; go_wp2_with fail
      go_end0
      exact ⟨HKF.out.trans (kept_of_below (ok := (· ≠ be)) (B := F.heap.size) HB5.out (fun _ h _ => h)), rfl, _, _, _, _, below_keep HB5.out HQ.out, EQ.move (fun b hb hok => ⟨HB5.out.block b hb, hok⟩) _ _ HRp.out⟩
    | bad c a =>
      go_simp; refine (HEx.out wx bc bp bf HBx.out HCx.out.2 HCx.out.1).mono ?_; rintro e w5 ⟨hk5, he5⟩; obtain rfl : e = _ := he5; (exact ⟨rfl, HKF.out.trans (kept_of_below (ok := (· ≠ be)) (B := F.heap.size) (kept3 HBx.out HCx.out.2 hk5) (fun _ h _ => h)), rfl, _, _, _, _, below_keep (kept3 HBx.out HCx.out.2 hk5) HQ.out⟩)
end Go.Proofs.YtheiikkeelbjnajGreat
