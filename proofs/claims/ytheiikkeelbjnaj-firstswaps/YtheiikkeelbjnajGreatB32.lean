/- Texts of one proof, one behind the other: FRF, FRG, FRH. -/
import Derived.Test.YtheiikkeelbjnajGreatB29
/- Walks: an expression of words that is read, whatever the text; a node. -/
namespace Go.Proofs.YtheiikkeelbjnajGreat
open Go.RowKit Go.Sort

/-- What is known of a reading's way. -/
theorem ExPost.ok {K : Nat → List UInt8 → Option (Rd Ex)} {br : Nat} {t : ByteArray} {l : List UInt8} {w : World} {e : Ending} {w' : World} (h : ExPost K br t l w e w') {x : Ex} {r : List UInt8} (hev : EvR (K · l) (.ok x r)) : Kept (· ≠ br) w w' ∧ ∃ v a', e = .returned v ∧ EQ w' (w.heap.size ≤ ·) x v ∧ At t a' r ∧ TS br w' t a' ∧ x.size + r.length ≤ l.length := by
  obtain ⟨hk, ⟨x', r', v, a', hev', he, h1, h2, h3, h4⟩ | ⟨r', a', hev', he, h1⟩⟩ := h
  · obtain ⟨rfl, rfl⟩ := Rd.ok.inj (hev.unique hev')
    exact ⟨hk, v, a', he, h1, h2, h3, h4⟩
  · cases hev.unique hev'
theorem ExPost.bad {K : Nat → List UInt8 → Option (Rd Ex)} {br : Nat} {t : ByteArray} {l : List UInt8} {w : World} {e : Ending} {w' : World} (h : ExPost K br t l w e w') {r : List UInt8} (hev : EvR (K · l) (.bad r)) : Kept (· ≠ br) w w' ∧ ∃ a' : Nat, e = .panicked (stopC 1 (a' : Nat)) ∧ At t a' r := by
  obtain ⟨hk, ⟨x', r', v, a', hev', he, h1, h2, h3, h4⟩ | ⟨r', a', hev', he, h1⟩⟩ := h
  · cases hev.unique hev'
  · obtain rfl := Rd.bad.inj (hev.unique hev')
    exact ⟨hk, a', he, h1⟩
/-- All texts shorter than m are read by K. -/
def ExReads (K : Nat → List UInt8 → Option (Rd Ex)) (fid : Nat) (t : ByteArray) (m : Nat) : Prop :=
  ∀ (br a : Nat) (l : List UInt8) (w : World), At t a l → TS br w t a → l.length < m → Calls Tryz.prog fid #[.pointer (some ⟨br, 0, none⟩)] w (ExPost K br t l w)

set_option maxHeartbeats 2000000 in
theorem of_same_bad (br : Nat) (t : ByteArray) (ht : t.size ≤ 20000) (w : World) (a : Nat) (l r r2 r3 : List UInt8) (n : ByteArray) (ws : List Wd) (ha : At t a l) (h : TS br w t a) (hev : EvR (rWord · l) (.ok (.mk n ws) r)) (hT : takeS [61] r = some r2) (hx : EvR (rWord · r2) (.bad r3)) :
    Calls Tryz.prog 210 #[.pointer (some ⟨br, 0, none⟩)] w (ExPost rOf br t l w) := by
  (have hne : w.heap.size ≠ br := by have := h.lt; omega)
  go_enter Tryz.func210, Tryz.ntmps210
  go_wp2_with (first
    | (go_at_call 212
       refine (wdRead_any t ht br a l _ ha (h.alloc _)).mono ?_; intro e w1 hp1; obtain ⟨hk1, v1, a1, rfl, hq1, ha1, hr1, hz1⟩ := hp1.ok hev
       obtain ⟨sl, cap, rfl, hn1, -⟩ := WQ.def.1 hq1)
    | (go_at_call 176
       (refine (takeT_yes br t ⟨#[61]⟩ ht (by decide) _ a1 r r2 ha1 (hr1.alloc _) hT).mono ?_)
       rintro e w2 ⟨rfl, ⟨a2, ha2, hr2⟩, hk2⟩)
    | fail)
  (have hn1' : w1.heap.size ≠ br := by have := hr1.lt; omega); (have q3 : w2.heap[w1.heap.size]? = some (.cells #[.string n, .slice sl ws.length cap] 27 (0, 0)) := (hk2.block _ (by simp) hn1').trans (blk_new _ _)); obtain ⟨g1, g2, g3, g4⟩ := blk2 q3; have KK : Kept (· ≠ br) w w2.drew := ((((Kept.refl _ _).alloc _).trans hk1).trans (((Kept.refl _ _).alloc _).trans hk2)).drew; (refine wp_region_any (by kernel_rfl) ?_)
  change wpAny _ _ _ _ _ _ _ (World.drew _)
  (refine wpAny_take (i := 1) (v := ?_) rfl (by kernel_rfl) (by kernel_rfl) (by kernel_rfl) (fun _ _ _ h => h) (Or.inl ⟨by rfl, ?_⟩) ?_)
  rotate_left
  · intro w; go_simp; with_reducible rfl
  (refine wpAny_ready (rs := [0, 2]) (by kernel_rfl) (by simp) ?_); (refine AllReady.cons rfl (fun K hK => ?_) (AllReady.cons rfl (fun K hK => ?_) AllReady.nil))
  · go_simp
    refine hK _ _ ?_; clear hK K; (refine wpAny_ready (rs := [2]) (by kernel_rfl) (by simp) ?_); (refine AllReady.cons rfl (fun K hK => ?_) AllReady.nil); go_simp; refine (wdRead_any t ht br a2 r2 w2.drew ha2 (hr2.same rfl)).mono ?_; intro e w3 hp3; obtain ⟨hk3, a3, rfl, ha3⟩ := hp3.bad hx; exact ⟨rfl, KK.trans hk3, Or.inr ⟨r3, a3, ev_of_same_bad hev hT hx, rfl, ha3⟩⟩
  · go_simp
    refine (wdRead_any t ht br a2 r2 w2.drew ha2 (hr2.same rfl)).mono ?_; intro e w3 hp3; obtain ⟨hk3, a3, rfl, ha3⟩ := hp3.bad hx; exact ⟨rfl, KK.trans hk3, Or.inr ⟨r3, a3, ev_of_same_bad hev hT hx, rfl, ha3⟩⟩
theorem ofRead_any (t : ByteArray) (ht : t.size ≤ 20000) (br a : Nat) (l : List UInt8) (w : World) (ha : At t a l) (h : TS br w t a) :
    Calls Tryz.prog 210 #[.pointer (some ⟨br, 0, none⟩)] w (ExPost rOf br t l w) := by
  obtain ⟨x, hx, -⟩ := rWord_tot l
  cases x with
  | bad r => exact of_bad br t ht w a l r ha h hx
  | ok y r =>
    obtain ⟨n, ws⟩ := y
    rcases hT : takeS [61] r with _ | r1
    · exact of_plain br t ht w a l r n ws ha h hx hT
    · obtain ⟨z, hz, -⟩ := rWord_tot r1
      cases z with
      | bad r2 => exact of_same_bad br t ht w a l r r1 r2 n ws ha h hx hT hz
      | ok y2 r2 =>
        obtain ⟨n', ws'⟩ := y2; exact of_same br t ht w a l r r1 r2 n n' ws ws' ha h hx hT hz

set_option maxHeartbeats 1000000 in
/-- A node of these kids. -/
theorem xnode_any (k : Int) (sk : Option Addr) (len ck : Nat) (w : World) :
    Calls Tryz.prog 177 #[.int .i64 k, .slice sk len ck] w fun e w' => e = .returned (.agg #[.int .i64 k, .string ⟨#[]⟩, .slice none 0 0, .slice sk len ck]) ∧ Below w.heap.size w w' := by
  go_enter Tryz.func177, Tryz.ntmps177
  go_wp2; (refine bodyPost_ret (v := .agg #[.int .i64 k, .string ⟨#[]⟩, .slice none 0 0, .slice sk len ck]) (by simp [results, Tryz.results177, go_sem]) rfl ⟨rfl, ?_⟩); exact (Below.refl _ w).alloc (Nat.le_refl _) _
end Go.Proofs.YtheiikkeelbjnajGreat
/- Walks: a quantified expression that is read. -/
namespace Go.Proofs.YtheiikkeelbjnajGreat
open Go.RowKit Go.Sort

set_option maxHeartbeats 1000000 in
theorem qu_no (q : Int) (br : Nat) (t : ByteArray) (ht : t.size ≤ 20000) (w : World) (a : Nat) (l : List UInt8) (ha : At t a l) (h : TS br w t a) (hv : isNm (lettL (skipB l)) = false) :
    Calls Tryz.prog 208 #[.pointer (some ⟨br, 0, none⟩), .int .i64 q] w (ExPost (rQu · q ·) br t l w) := by
  go_enter Tryz.func208, Tryz.ntmps208
  go_wp2_with (first
    | (go_at_call 211
       refine (nameV_any br t ht _ a l ha (h.alloc _)).mono ?_; rintro e w1 ⟨hk1, hp1⟩; (rw [NmPost, if_neg (by rw [hv]; exact Bool.false_ne_true)] at hp1)
       obtain rfl := hp1)
    | fail)
  exact ⟨rfl, ((Kept.refl _ _).alloc _).trans hk1, Or.inr ⟨_, _, ev_qu_no hv, rfl, ha.skipped⟩⟩
set_option maxHeartbeats 2000000 in
theorem qu_yes (q : Int) (br : Nat) (t : ByteArray) (ht : t.size ≤ 20000) (w : World) (a m : Nat) (l : List UInt8) (ha : At t a l) (h : TS br w t a) (hm : l.length < m) (ih : ExReads rNot 205 t m) (hv : isNm (lettL (skipB l)) = true) :
    Calls Tryz.prog 208 #[.pointer (some ⟨br, 0, none⟩), .int .i64 q] w (ExPost (rQu · q ·) br t l w) := by
  (have hne : w.heap.size ≠ br := by have := h.lt; omega)
  have HP : Hid ((lettL (skipB l)).length ≤ (skipB l).length ∧ (skipB l).length ≤ l.length ∧ l.length ≤ 20000 ∧ ((skipB l).drop (lettL (skipB l)).length).length ≤ l.length) := by
    (have h1 : (lettL (skipB l)).length ≤ (skipB l).length := by rw [lettL_pre (skipB l)]; simp; omega); have h2 := skipB_length l; (refine ⟨h1, h2, by have := ha.len; omega, by rw [List.length_drop]; omega⟩)
  have HS : (⟨(lettL (skipB l)).toArray⟩ : ByteArray).size ≤ maxLen := by
    have := HP.out; show (lettL (skipB l)).toArray.size ≤ maxLen; unfold maxLen
    simp
    omega
  go_enter Tryz.func208, Tryz.ntmps208
  go_wp2_with (first
    | (go_at_call 211
       refine (nameV_any br t ht _ a l ha (h.alloc _)).mono ?_; rintro e w1 ⟨hk1, hp1⟩; rw [NmPost, if_pos hv] at hp1
       obtain ⟨rfl, a1, ha1, hr1⟩ := hp1)
    | (go_at_call 205
       refine (ih br a1 _ _ ha1 hr1 (Nat.lt_of_le_of_lt HP.out.2.2.2 hm)).mono ?_; rintro e w2 ⟨hk2, ⟨⟨k, n, ws, ks⟩, r2, v, a2, hev, rfl, hrep, ha2, hr2, hb2⟩ | ⟨r2, a2, hev, rfl, ha2⟩⟩
       all_goals try (obtain ⟨sw, cw, sk, ck, rfl, -⟩ := EQ.def.1 hrep))
    | (go_at_call 177
       refine (xnode_any _ _ _ _ _).mono ?_; rintro e w3 ⟨rfl, hb3⟩
       have q2 : w3.heap[w.heap.size]? = some (.cells #[.int .i64 0, .string ⟨#[]⟩, .slice none 0 0, .slice none 0 0] 25 (0, 0)) := by
         have z1 := hk1.size; have z2 := hk2.size; simp at z1; (rw [hb3.block _ (by simp; omega), Below.heap_alloc _ _ _ (by omega), hk2.block _ (by omega) hne]); (exact (hk1.block _ (by simp) hne).trans (blk_new _ _))
       have z3 := lt_of_block q2; (have d1 : ¬ w.heap.size = w3.heap.size := by omega); (have d2 : ¬ w3.heap.size = w.heap.size := by omega)
       obtain ⟨k1, k2, k3, k4, k5, k6, k7, k8⟩ := blk4N q2)
    | fail)
  · have hP := HP.out
    (have hn2 : w2.heap.size ≠ br := by have := hr2.lt; omega); have z0 := h.lt; have y1 := hk1.size; have y2 := hk2.size; simp at y1; (have K3 : Kept (· ≠ br) w2 w3 := ((Kept.refl _ _).alloc _).trans ⟨hb3.os, hb3.tape, hb3.output, hb3.size, fun k hk _ => hb3.block k hk⟩); have K : Kept (· ≠ br) w w3 := (((Kept.refl _ _).alloc _).trans hk1).trans (hk2.trans K3); (have z : w3.heap[w2.heap.size]? = some (.cells #[.int .i64 k, .string n, .slice sw ws.length cw, .slice sk ks.length ck] 25 (0, 0)) := (hb3.block _ (by simp)).trans (blk_new _ _)); have z4 := lt_of_block z
    have hS : ∀ b, b < w3.heap.size → w.heap.size ≠ b → (((((w3.setCell ⟨w.heap.size, 0, none⟩ (.int .i64 q)).setCell ⟨w.heap.size, 1, none⟩ (.string ⟨(lettL (skipB l)).toArray⟩)).setCell ⟨w.heap.size, 2, none⟩ (.slice none 0 0)).setCell ⟨w.heap.size, 3, none⟩ (.slice (some ⟨w2.heap.size, 0, none⟩) 1 1)).alloc (.cells #[.int .i64 q, .string ⟨(lettL (skipB l)).toArray⟩, .slice none 0 0, .slice (some ⟨w2.heap.size, 0, none⟩) 1 1] 25 (0, 0))).heap[b]? = w3.heap[b]? := fun b hb hne => by
      (rw [Below.heap_alloc _ _ _ (by simpa [World.setCell] using hb), Below.heap_setCell _ _ _ _ (by simp; omega), Below.heap_setCell _ _ _ _ (by simp; omega), Below.heap_setCell _ _ _ _ (by simp; omega), Below.heap_setCell _ _ _ _ (by simp; omega)])
    (have d0 : w.heap.size < ((((w3.setCell ⟨w.heap.size, 0, none⟩ (.int .i64 q)).setCell ⟨w.heap.size, 1, none⟩ (.string ⟨(lettL (skipB l)).toArray⟩)).setCell ⟨w.heap.size, 2, none⟩ (.slice none 0 0)).setCell ⟨w.heap.size, 3, none⟩ (.slice (some ⟨w2.heap.size, 0, none⟩) 1 1)).heap.size := by simpa [World.setCell] using z3); (have e0 : ∀ off, (((((w3.setCell ⟨w.heap.size, 0, none⟩ (.int .i64 q)).setCell ⟨w.heap.size, 1, none⟩ (.string ⟨(lettL (skipB l)).toArray⟩)).setCell ⟨w.heap.size, 2, none⟩ (.slice none 0 0)).setCell ⟨w.heap.size, 3, none⟩ (.slice (some ⟨w2.heap.size, 0, none⟩) 1 1)).alloc (.cells #[.int .i64 q, .string ⟨(lettL (skipB l)).toArray⟩, .slice none 0 0, .slice (some ⟨w2.heap.size, 0, none⟩) 1 1] 25 (0, 0))).cell? ⟨w.heap.size, off, none⟩ = ((((w3.setCell ⟨w.heap.size, 0, none⟩ (.int .i64 q)).setCell ⟨w.heap.size, 1, none⟩ (.string ⟨(lettL (skipB l)).toArray⟩)).setCell ⟨w.heap.size, 2, none⟩ (.slice none 0 0)).setCell ⟨w.heap.size, 3, none⟩ (.slice (some ⟨w2.heap.size, 0, none⟩) 1 1)).cell? ⟨w.heap.size, off, none⟩ := fun off => cell_of_block (Below.heap_alloc _ _ _ d0)); (refine bodyPost_ret (v := .agg #[.int .i64 q, .string ⟨(lettL (skipB l)).toArray⟩, .slice none 0 0, .slice (some ⟨w2.heap.size, 0, none⟩) 1 1]) (by simp [results, Tryz.results208, go_sem, k1, k2, k3, k4, e0]) rfl ⟨?_, Or.inl ⟨.mk q ⟨(lettL (skipB l)).toArray⟩ [] [.mk k n ws ks], r2, _, a2, by have := ev_qu_ok (q := q) hv hev; simpa only [Rd.un] using this, rfl, ?_, ha2, ?_, ?_⟩⟩)
    · exact ((((K.setCell (fun h => by simp at h) _).setCell (fun h => by simp at h) _).setCell (fun h => by simp at h) _).setCell (fun h => by simp at h) _).alloc _
    · refine EQ.one (T := 25) HS ((hS _ z4 (by omega)).trans z) (by omega) (EQ.move (fun b hb hok => ?_) _ _ hrep)
      (exact ⟨(hS b (by omega) (by omega)).trans (K3.block b hb (by omega)), by omega⟩)
    · exact ((((((hr2.alloc _).same (hb3.block _ (by have := hr2.lt; simp; omega))).other hne _).other hne _).other hne _).other hne _).alloc _
    · rw [xsize_one]
      have h5 := hb2; rw [List.length_drop] at h5
      have h6 : 0 < (lettL (skipB l)).length := by
        rcases hl : lettL (skipB l) with _ | ⟨c, cs⟩
        · rw [hl] at hv; simp [isNm] at hv
        · simp
      omega
  · exact ⟨rfl, (((Kept.refl _ _).alloc _).trans hk1).trans hk2, Or.inr ⟨r2, a2, by have := ev_qu_ok (q := q) hv hev; simpa only [Rd.un] using this, rfl, ha2⟩⟩
end Go.Proofs.YtheiikkeelbjnajGreat
/- Walks: a reader's 'not' in first order, way by way. -/
namespace Go.Proofs.YtheiikkeelbjnajGreat
open Go.RowKit Go.Sort

theorem rWord_skip (n : Nat) (l : List UInt8) : rWord n (skipB l) = rWord n l := by
  cases n with
  | zero => rfl
  | succ n => simp only [rWord, skipB_idem]
theorem rOf_skip (n : Nat) (l : List UInt8) : rOf n (skipB l) = rOf n l := by simp only [rOf, rWord_skip]
theorem quRead_any (t : ByteArray) (ht : t.size ≤ 20000) (q : Int) (m : Nat) (ih : ExReads rNot 205 t m) (br a : Nat) (l : List UInt8) (w : World) (ha : At t a l) (h : TS br w t a) (hm : l.length < m) :
    Calls Tryz.prog 208 #[.pointer (some ⟨br, 0, none⟩), .int .i64 q] w (ExPost (rQu · q ·) br t l w) := by
  rcases hv : isNm (lettL (skipB l)) with _ | _
  · exact qu_no q br t ht w a l ha h hv
  · exact qu_yes q br t ht w a m l ha h hm ih hv
set_option maxHeartbeats 1000000 in
theorem rn_way1 (br : Nat) (t : ByteArray) (ht : t.size ≤ 20000) (w : World) (a m : Nat) (l r : List UInt8) (ha : At t a l) (h : TS br w t a) (hm : r.length < m) (ih : ExReads rNot 205 t m) (t1 : takeS [126] l = some r) :
    Calls Tryz.prog 205 #[.pointer (some ⟨br, 0, none⟩)] w (ExPost rNot br t l w) := by
  (have hne : w.heap.size ≠ br := by have := h.lt; omega); have hll := takeS_len t1; simp only [List.length_cons, List.length_nil] at hll
  go_enter Tryz.func205, Tryz.ntmps205
  go_wp2_with (first
    | (go_at_call_of 176 (Value.string ⟨#[126]⟩)
       (refine (takeT_yes br t ⟨#[126]⟩ ht (by decide) _ a l r ha (h.alloc _) t1).mono ?_); rintro e w1 ⟨rfl, ⟨a1, ha1, hr1⟩, hk0⟩; have hk1 := hk0
       clear hk0)
    | (go_at_call 205
       refine (ih br a1 r w1 ha1 hr1 hm).mono ?_; rintro e w2 ⟨hk2, ⟨⟨k, n, ws, ks⟩, r2, v, a2, hev, rfl, hrep, ha2, hr2, hb2⟩ | ⟨r2, a2, hev, rfl, ha2⟩⟩
       all_goals try (obtain ⟨sw, cw, sk, ck, rfl, -⟩ := EQ.def.1 hrep))
    | (go_at_call 177
       refine (xnode_any _ _ _ _ _).mono ?_; rintro e w3 ⟨rfl, hb3⟩
       have q2 : w3.heap[w.heap.size]? = some (.cells #[.int .i64 0, .string ⟨#[]⟩, .slice none 0 0, .slice none 0 0] 25 (0, 0)) := by
         have z1 := hk1.size; simp at z1; have z2 := hk2.size; (rw [hb3.block _ (by simp; omega), Below.heap_alloc _ _ _ (by omega), hk2.block _ (by omega) hne]); (exact (hk1.block _ (by simp) hne).trans (blk_new _ _))
       obtain ⟨k1, k2, k3, k4, k5, k6, k7, k8⟩ := blk4N q2)
    | fail)
  · have z0 := h.lt
    have y1 := hk1.size; have y2 := hk2.size; simp at y1; (have K3 : Kept (· ≠ br) w2 w3 := ((Kept.refl _ _).alloc _).trans ⟨hb3.os, hb3.tape, hb3.output, hb3.size, fun k hk _ => hb3.block k hk⟩); have K : Kept (· ≠ br) w w3 := (((Kept.refl _ _).alloc _).trans hk1).trans (hk2.trans K3); (have z : w3.heap[w2.heap.size]? = some (.cells #[.int .i64 k, .string n, .slice sw ws.length cw, .slice sk ks.length ck] 25 (0, 0)) := (hb3.block _ (by simp)).trans (blk_new _ _))
    have hS : ∀ b, w.heap.size ≠ b → ((((w3.setCell ⟨w.heap.size, 0, none⟩ (.int .i64 5)).setCell ⟨w.heap.size, 1, none⟩ (.string ⟨#[]⟩)).setCell ⟨w.heap.size, 2, none⟩ (.slice none 0 0)).setCell ⟨w.heap.size, 3, none⟩ (.slice (some ⟨w2.heap.size, 0, none⟩) 1 1)).heap[b]? = w3.heap[b]? := fun b hb => by
      (rw [Below.heap_setCell _ _ _ _ (by simp; omega), Below.heap_setCell _ _ _ _ (by simp; omega), Below.heap_setCell _ _ _ _ (by simp; omega), Below.heap_setCell _ _ _ _ (by simp; omega)])
    (refine bodyPost_ret (v := .agg #[.int .i64 5, .string ⟨#[]⟩, .slice none 0 0, .slice (some ⟨w2.heap.size, 0, none⟩) 1 1]) (by simp [results, Tryz.results205, go_sem, k1, k2, k3, k4]) rfl ⟨?_, Or.inl ⟨.mk 5 e0 [] [.mk k n ws ks], r2, _, a2, by have := ev_rn1 t1 hev; simpa only [Rd.un] using this, rfl, ?_, ha2, ?_, by rw [xsize_one]; omega⟩⟩)
    · exact (((K.setCell (fun h => by simp at h) _).setCell (fun h => by simp at h) _).setCell (fun h => by simp at h) _).setCell (fun h => by simp at h) _
    · refine EQ.one (T := 25) (by decide) ((hS _ (by omega)).trans z) (by omega) (EQ.move (fun b hb hok => ?_) _ _ hrep)
      (exact ⟨(hS b (by omega)).trans (K3.block b hb (by omega)), by omega⟩)
    · exact (((((hr2.alloc _).same (hb3.block _ (by have := hr2.lt; simp; omega))).other hne _).other hne _).other hne _).other hne _
  · exact ⟨rfl, (((Kept.refl _ _).alloc _).trans hk1).trans hk2, Or.inr ⟨r2, a2, by have := ev_rn1 t1 hev; simpa only [Rd.un] using this, rfl, ha2⟩⟩
set_option maxHeartbeats 1000000 in
theorem rn_way2 (br : Nat) (t : ByteArray) (ht : t.size ≤ 20000) (w : World) (a : Nat) (l r : List UInt8) (ha : At t a l) (h : TS br w t a) (m : Nat) (hm : r.length < m) (ih : ExReads rNot 205 t m) (t1 : takeS [126] l = none) (t2 : takeS [33] l = some r) :
    Calls Tryz.prog 205 #[.pointer (some ⟨br, 0, none⟩)] w (ExPost rNot br t l w) := by
  (have hne : w.heap.size ≠ br := by have := h.lt; omega); have hll := takeS_len t2; simp only [List.length_cons, List.length_nil] at hll
  go_enter Tryz.func205, Tryz.ntmps205
  go_wp2_with (first
    | (go_at_call_of 176 (Value.string ⟨#[126]⟩)
       refine (takeT_no br t ⟨#[126]⟩ ht _ a l ha (h.alloc _) t1).mono ?_
       rintro e u1 ⟨rfl, ⟨pb1, hb1, hs1⟩, hq1⟩)
    | (go_at_call_of 176 (Value.string ⟨#[33]⟩)
       (refine (takeT_yes br t ⟨#[33]⟩ ht (by decide) _ pb1 (skipB l) r hb1 hs1 (by rw [takeS_skip]; exact t2)).mono ?_); rintro e w1 ⟨rfl, ⟨a1, ha1, hr1⟩, hk0⟩; have hk1 := hq1.trans (hk0)
       clear hk0)
    | (go_at_call 208
       refine (quRead_any t ht 9 m ih br a1 r w1 ha1 hr1 hm).mono ?_; rintro e w2 ⟨hk2, ⟨⟨k, n, ws, ks⟩, r2, v, a2, hev, rfl, hrep, ha2, hr2, hb2⟩ | ⟨r2, a2, hev, rfl, ha2⟩⟩
       all_goals try (obtain ⟨sw, cw, sk, ck, rfl, -⟩ := EQ.def.1 hrep
                      have q2 : w2.heap[w.heap.size]? = some (.cells #[.int .i64 0, .string ⟨#[]⟩, .slice none 0 0, .slice none 0 0] 25 (0, 0)) := by
                        have z1 := hk1.size; simp at z1; (rw [hk2.block _ (by omega) hne]); (exact (hk1.block _ (by simp) hne).trans (blk_new _ _))
                      obtain ⟨k1, k2, k3, k4, k5, k6, k7, k8⟩ := blk4N q2))
    | fail)
  · have z0 := h.lt
    have y1 := hk1.size; simp at y1; have K : Kept (· ≠ br) w w2 := (((Kept.refl _ _).alloc _).trans hk1).trans hk2
    have hS : ∀ b, w.heap.size ≠ b → ((((w2.setCell ⟨w.heap.size, 0, none⟩ (.int .i64 k)).setCell ⟨w.heap.size, 1, none⟩ (.string n)).setCell ⟨w.heap.size, 2, none⟩ (.slice sw ws.length cw)).setCell ⟨w.heap.size, 3, none⟩ (.slice sk ks.length ck)).heap[b]? = w2.heap[b]? := fun b hb => by
      (rw [Below.heap_setCell _ _ _ _ (by simp; omega), Below.heap_setCell _ _ _ _ (by simp; omega), Below.heap_setCell _ _ _ _ (by simp; omega), Below.heap_setCell _ _ _ _ (by simp; omega)])
    (refine bodyPost_ret (v := .agg #[.int .i64 k, .string n, .slice sw ws.length cw, .slice sk ks.length ck]) (by simp [results, Tryz.results205, go_sem, k1, k2, k3, k4]) rfl ⟨?_, Or.inl ⟨.mk k n ws ks, r2, _, a2, ev_rn2 t1 t2 hev, rfl, ?_, ha2, ?_, by omega⟩⟩)
    · exact (((K.setCell (fun h => by simp at h) _).setCell (fun h => by simp at h) _).setCell (fun h => by simp at h) _).setCell (fun h => by simp at h) _
    · refine EQ.move (fun b hb hok => ?_) _ _ hrep
      (exact ⟨hS b (by omega), by omega⟩)
    · exact (((hr2.other hne _).other hne _).other hne _).other hne _
  · exact ⟨rfl, (((Kept.refl _ _).alloc _).trans hk1).trans hk2, Or.inr ⟨r2, a2, ev_rn2 t1 t2 hev, rfl, ha2⟩⟩
set_option maxHeartbeats 1000000 in
theorem rn_way3 (br : Nat) (t : ByteArray) (ht : t.size ≤ 20000) (w : World) (a : Nat) (l r : List UInt8) (ha : At t a l) (h : TS br w t a) (m : Nat) (hm : r.length < m) (ih : ExReads rNot 205 t m) (t1 : takeS [126] l = none) (t2 : takeS [33] l = none) (t3 : takeS [63] l = some r) :
    Calls Tryz.prog 205 #[.pointer (some ⟨br, 0, none⟩)] w (ExPost rNot br t l w) := by
  (have hne : w.heap.size ≠ br := by have := h.lt; omega); have hll := takeS_len t3; simp only [List.length_cons, List.length_nil] at hll
  go_enter Tryz.func205, Tryz.ntmps205
  go_wp2_with (first
    | (go_at_call_of 176 (Value.string ⟨#[126]⟩)
       refine (takeT_no br t ⟨#[126]⟩ ht _ a l ha (h.alloc _) t1).mono ?_
       rintro e u1 ⟨rfl, ⟨pb1, hb1, hs1⟩, hq1⟩)
    | (go_at_call_of 176 (Value.string ⟨#[33]⟩)
       (refine (takeT_no br t ⟨#[33]⟩ ht _ pb1 (skipB l) hb1 hs1 (by rw [takeS_skip]; exact t2)).mono ?_); rintro e u2 ⟨rfl, ⟨pb2, hb2, hs2⟩, hq2⟩
       rw [skipB_idem] at hb2)
    | (go_at_call_of 176 (Value.string ⟨#[63]⟩)
       (refine (takeT_yes br t ⟨#[63]⟩ ht (by decide) _ pb2 (skipB l) r hb2 hs2 (by rw [takeS_skip]; exact t3)).mono ?_); rintro e w1 ⟨rfl, ⟨a1, ha1, hr1⟩, hk0⟩; have hk1 := hq1.trans (hq2.trans (hk0))
       clear hk0)
    | (go_at_call 208
       refine (quRead_any t ht 10 m ih br a1 r w1 ha1 hr1 hm).mono ?_; rintro e w2 ⟨hk2, ⟨⟨k, n, ws, ks⟩, r2, v, a2, hev, rfl, hrep, ha2, hr2, hb2⟩ | ⟨r2, a2, hev, rfl, ha2⟩⟩
       all_goals try (obtain ⟨sw, cw, sk, ck, rfl, -⟩ := EQ.def.1 hrep
                      have q2 : w2.heap[w.heap.size]? = some (.cells #[.int .i64 0, .string ⟨#[]⟩, .slice none 0 0, .slice none 0 0] 25 (0, 0)) := by
                        have z1 := hk1.size; simp at z1; (rw [hk2.block _ (by omega) hne]); (exact (hk1.block _ (by simp) hne).trans (blk_new _ _))
                      obtain ⟨k1, k2, k3, k4, k5, k6, k7, k8⟩ := blk4N q2))
    | fail)
  · have z0 := h.lt
    have y1 := hk1.size; simp at y1; have K : Kept (· ≠ br) w w2 := (((Kept.refl _ _).alloc _).trans hk1).trans hk2
    have hS : ∀ b, w.heap.size ≠ b → ((((w2.setCell ⟨w.heap.size, 0, none⟩ (.int .i64 k)).setCell ⟨w.heap.size, 1, none⟩ (.string n)).setCell ⟨w.heap.size, 2, none⟩ (.slice sw ws.length cw)).setCell ⟨w.heap.size, 3, none⟩ (.slice sk ks.length ck)).heap[b]? = w2.heap[b]? := fun b hb => by
      (rw [Below.heap_setCell _ _ _ _ (by simp; omega), Below.heap_setCell _ _ _ _ (by simp; omega), Below.heap_setCell _ _ _ _ (by simp; omega), Below.heap_setCell _ _ _ _ (by simp; omega)])
    (refine bodyPost_ret (v := .agg #[.int .i64 k, .string n, .slice sw ws.length cw, .slice sk ks.length ck]) (by simp [results, Tryz.results205, go_sem, k1, k2, k3, k4]) rfl ⟨?_, Or.inl ⟨.mk k n ws ks, r2, _, a2, ev_rn3 t1 t2 t3 hev, rfl, ?_, ha2, ?_, by omega⟩⟩)
    · exact (((K.setCell (fun h => by simp at h) _).setCell (fun h => by simp at h) _).setCell (fun h => by simp at h) _).setCell (fun h => by simp at h) _
    · refine EQ.move (fun b hb hok => ?_) _ _ hrep
      (exact ⟨hS b (by omega), by omega⟩)
    · exact (((hr2.other hne _).other hne _).other hne _).other hne _
  · exact ⟨rfl, (((Kept.refl _ _).alloc _).trans hk1).trans hk2, Or.inr ⟨r2, a2, ev_rn3 t1 t2 t3 hev, rfl, ha2⟩⟩
set_option maxHeartbeats 1000000 in
theorem rn_way5 (br : Nat) (t : ByteArray) (ht : t.size ≤ 20000) (w : World) (a : Nat) (l r : List UInt8) (ha : At t a l) (h : TS br w t a) (t1 : takeS [126] l = none) (t2 : takeS [33] l = none) (t3 : takeS [63] l = none) (t4 : takeS [40] l = none) (t5 : takeS [49] l = some r) :
    Calls Tryz.prog 205 #[.pointer (some ⟨br, 0, none⟩)] w (ExPost rNot br t l w) := by
  (have hne : w.heap.size ≠ br := by have := h.lt; omega); have hll := takeS_len t5; simp only [List.length_cons, List.length_nil] at hll
  go_enter Tryz.func205, Tryz.ntmps205
  go_wp2_with (first
    | (go_at_call_of 176 (Value.string ⟨#[126]⟩)
       refine (takeT_no br t ⟨#[126]⟩ ht _ a l ha (h.alloc _) t1).mono ?_
       rintro e u1 ⟨rfl, ⟨pb1, hb1, hs1⟩, hq1⟩)
    | (go_at_call_of 176 (Value.string ⟨#[33]⟩)
       (refine (takeT_no br t ⟨#[33]⟩ ht _ pb1 (skipB l) hb1 hs1 (by rw [takeS_skip]; exact t2)).mono ?_); rintro e u2 ⟨rfl, ⟨pb2, hb2, hs2⟩, hq2⟩
       rw [skipB_idem] at hb2)
    | (go_at_call_of 176 (Value.string ⟨#[63]⟩)
       (refine (takeT_no br t ⟨#[63]⟩ ht _ pb2 (skipB l) hb2 hs2 (by rw [takeS_skip]; exact t3)).mono ?_); rintro e u3 ⟨rfl, ⟨pb3, hb3, hs3⟩, hq3⟩
       rw [skipB_idem] at hb3)
    | (go_at_call_of 176 (Value.string ⟨#[40]⟩)
       (refine (takeT_no br t ⟨#[40]⟩ ht _ pb3 (skipB l) hb3 hs3 (by rw [takeS_skip]; exact t4)).mono ?_); rintro e u4 ⟨rfl, ⟨pb4, hb4, hs4⟩, hq4⟩
       rw [skipB_idem] at hb4)
    | (go_at_call_of 176 (Value.string ⟨#[49]⟩)
       (refine (takeT_yes br t ⟨#[49]⟩ ht (by decide) _ pb4 (skipB l) r hb4 hs4 (by rw [takeS_skip]; exact t5)).mono ?_); rintro e w1 ⟨rfl, ⟨a1, ha1, hr1⟩, hk0⟩; have hk1 := hq1.trans (hq2.trans (hq3.trans (hq4.trans (hk0))))
       clear hk0)
    | (go_at_call 177
       refine (xnode_any _ _ _ _ _).mono ?_; rintro e w3 ⟨rfl, hb3⟩
       have q2 : w3.heap[w.heap.size]? = some (.cells #[.int .i64 0, .string ⟨#[]⟩, .slice none 0 0, .slice none 0 0] 25 (0, 0)) := by
         have z1 := hk1.size; simp at z1; (rw [hb3.block _ (by omega)]); (exact (hk1.block _ (by simp) hne).trans (blk_new _ _))
       obtain ⟨k1, k2, k3, k4, k5, k6, k7, k8⟩ := blk4N q2)
    | fail)
  (have K : Kept (· ≠ br) w w3 := (((Kept.refl _ _).alloc _).trans hk1).trans ⟨hb3.os, hb3.tape, hb3.output, hb3.size, fun k hk _ => hb3.block k hk⟩); (refine bodyPost_ret (v := .agg #[.int .i64 3, .string ⟨#[]⟩, .slice none 0 0, .slice none 0 0]) (by simp [results, Tryz.results205, go_sem, k1, k2, k3, k4]) rfl ⟨?_, Or.inl ⟨.mk 3 e0 [] [], r, _, a1, ev_rn5 t1 t2 t3 t4 t5, rfl, EQ.def.2 ⟨none, 0, none, 0, rfl, by decide, ⟨by simp, by simp, fun h => absurd rfl h⟩, by simp, by simp, fun h => absurd rfl h⟩, ha1, ?_, by rw [xsize_leaf]; omega⟩⟩)
  · exact (((K.setCell (fun h => by simp at h) _).setCell (fun h => by simp at h) _).setCell (fun h => by simp at h) _).setCell (fun h => by simp at h) _
  · exact ((((hr1.same (hb3.block _ hr1.lt)).other hne _).other hne _).other hne _).other hne _
set_option maxHeartbeats 1000000 in
theorem rn_way6 (br : Nat) (t : ByteArray) (ht : t.size ≤ 20000) (w : World) (a : Nat) (l r : List UInt8) (ha : At t a l) (h : TS br w t a) (t1 : takeS [126] l = none) (t2 : takeS [33] l = none) (t3 : takeS [63] l = none) (t4 : takeS [40] l = none) (t5 : takeS [49] l = none) (t6 : takeS [48] l = some r) :
    Calls Tryz.prog 205 #[.pointer (some ⟨br, 0, none⟩)] w (ExPost rNot br t l w) := by
  (have hne : w.heap.size ≠ br := by have := h.lt; omega); have hll := takeS_len t6; simp only [List.length_cons, List.length_nil] at hll
  go_enter Tryz.func205, Tryz.ntmps205
  go_wp2_with (first
    | (go_at_call_of 176 (Value.string ⟨#[126]⟩)
       refine (takeT_no br t ⟨#[126]⟩ ht _ a l ha (h.alloc _) t1).mono ?_
       rintro e u1 ⟨rfl, ⟨pb1, hb1, hs1⟩, hq1⟩)
    | (go_at_call_of 176 (Value.string ⟨#[33]⟩)
       (refine (takeT_no br t ⟨#[33]⟩ ht _ pb1 (skipB l) hb1 hs1 (by rw [takeS_skip]; exact t2)).mono ?_); rintro e u2 ⟨rfl, ⟨pb2, hb2, hs2⟩, hq2⟩
       rw [skipB_idem] at hb2)
    | (go_at_call_of 176 (Value.string ⟨#[63]⟩)
       (refine (takeT_no br t ⟨#[63]⟩ ht _ pb2 (skipB l) hb2 hs2 (by rw [takeS_skip]; exact t3)).mono ?_); rintro e u3 ⟨rfl, ⟨pb3, hb3, hs3⟩, hq3⟩
       rw [skipB_idem] at hb3)
    | (go_at_call_of 176 (Value.string ⟨#[40]⟩)
       (refine (takeT_no br t ⟨#[40]⟩ ht _ pb3 (skipB l) hb3 hs3 (by rw [takeS_skip]; exact t4)).mono ?_); rintro e u4 ⟨rfl, ⟨pb4, hb4, hs4⟩, hq4⟩
       rw [skipB_idem] at hb4)
    | (go_at_call_of 176 (Value.string ⟨#[49]⟩)
       (refine (takeT_no br t ⟨#[49]⟩ ht _ pb4 (skipB l) hb4 hs4 (by rw [takeS_skip]; exact t5)).mono ?_); rintro e u5 ⟨rfl, ⟨pb5, hb5, hs5⟩, hq5⟩
       rw [skipB_idem] at hb5)
    | (go_at_call_of 176 (Value.string ⟨#[48]⟩)
       (refine (takeT_yes br t ⟨#[48]⟩ ht (by decide) _ pb5 (skipB l) r hb5 hs5 (by rw [takeS_skip]; exact t6)).mono ?_); rintro e w1 ⟨rfl, ⟨a1, ha1, hr1⟩, hk0⟩; have hk1 := hq1.trans (hq2.trans (hq3.trans (hq4.trans (hq5.trans (hk0)))))
       clear hk0)
    | (go_at_call 177
       refine (xnode_any _ _ _ _ _).mono ?_; rintro e w3 ⟨rfl, hb3⟩
       have q2 : w3.heap[w.heap.size]? = some (.cells #[.int .i64 0, .string ⟨#[]⟩, .slice none 0 0, .slice none 0 0] 25 (0, 0)) := by
         have z1 := hk1.size; simp at z1; (rw [hb3.block _ (by omega)]); (exact (hk1.block _ (by simp) hne).trans (blk_new _ _))
       obtain ⟨k1, k2, k3, k4, k5, k6, k7, k8⟩ := blk4N q2)
    | fail)
  (have K : Kept (· ≠ br) w w3 := (((Kept.refl _ _).alloc _).trans hk1).trans ⟨hb3.os, hb3.tape, hb3.output, hb3.size, fun k hk _ => hb3.block k hk⟩); (refine bodyPost_ret (v := .agg #[.int .i64 4, .string ⟨#[]⟩, .slice none 0 0, .slice none 0 0]) (by simp [results, Tryz.results205, go_sem, k1, k2, k3, k4]) rfl ⟨?_, Or.inl ⟨.mk 4 e0 [] [], r, _, a1, ev_rn6 t1 t2 t3 t4 t5 t6, rfl, EQ.def.2 ⟨none, 0, none, 0, rfl, by decide, ⟨by simp, by simp, fun h => absurd rfl h⟩, by simp, by simp, fun h => absurd rfl h⟩, ha1, ?_, by rw [xsize_leaf]; omega⟩⟩)
  · exact (((K.setCell (fun h => by simp at h) _).setCell (fun h => by simp at h) _).setCell (fun h => by simp at h) _).setCell (fun h => by simp at h) _
  · exact ((((hr1.same (hb3.block _ hr1.lt)).other hne _).other hne _).other hne _).other hne _
set_option maxHeartbeats 1000000 in
theorem rn_way7 (br : Nat) (t : ByteArray) (ht : t.size ≤ 20000) (w : World) (a : Nat) (l : List UInt8) (ha : At t a l) (h : TS br w t a) (t1 : takeS [126] l = none) (t2 : takeS [33] l = none) (t3 : takeS [63] l = none) (t4 : takeS [40] l = none) (t5 : takeS [49] l = none) (t6 : takeS [48] l = none) :
    Calls Tryz.prog 205 #[.pointer (some ⟨br, 0, none⟩)] w (ExPost rNot br t l w) := by
  (have hne : w.heap.size ≠ br := by have := h.lt; omega)
  go_enter Tryz.func205, Tryz.ntmps205
  go_wp2_with (first
    | (go_at_call_of 176 (Value.string ⟨#[126]⟩)
       refine (takeT_no br t ⟨#[126]⟩ ht _ a l ha (h.alloc _) t1).mono ?_
       rintro e u1 ⟨rfl, ⟨pb1, hb1, hs1⟩, hq1⟩)
    | (go_at_call_of 176 (Value.string ⟨#[33]⟩)
       (refine (takeT_no br t ⟨#[33]⟩ ht _ pb1 (skipB l) hb1 hs1 (by rw [takeS_skip]; exact t2)).mono ?_); rintro e u2 ⟨rfl, ⟨pb2, hb2, hs2⟩, hq2⟩
       rw [skipB_idem] at hb2)
    | (go_at_call_of 176 (Value.string ⟨#[63]⟩)
       (refine (takeT_no br t ⟨#[63]⟩ ht _ pb2 (skipB l) hb2 hs2 (by rw [takeS_skip]; exact t3)).mono ?_); rintro e u3 ⟨rfl, ⟨pb3, hb3, hs3⟩, hq3⟩
       rw [skipB_idem] at hb3)
    | (go_at_call_of 176 (Value.string ⟨#[40]⟩)
       (refine (takeT_no br t ⟨#[40]⟩ ht _ pb3 (skipB l) hb3 hs3 (by rw [takeS_skip]; exact t4)).mono ?_); rintro e u4 ⟨rfl, ⟨pb4, hb4, hs4⟩, hq4⟩
       rw [skipB_idem] at hb4)
    | (go_at_call_of 176 (Value.string ⟨#[49]⟩)
       (refine (takeT_no br t ⟨#[49]⟩ ht _ pb4 (skipB l) hb4 hs4 (by rw [takeS_skip]; exact t5)).mono ?_); rintro e u5 ⟨rfl, ⟨pb5, hb5, hs5⟩, hq5⟩
       rw [skipB_idem] at hb5)
    | (go_at_call_of 176 (Value.string ⟨#[48]⟩)
       (refine (takeT_no br t ⟨#[48]⟩ ht _ pb5 (skipB l) hb5 hs5 (by rw [takeS_skip]; exact t6)).mono ?_); rintro e w1 ⟨rfl, ⟨pb6, hb6, hs6⟩, hq6⟩; rw [skipB_idem] at hb6
       have hk1 := hq1.trans (hq2.trans (hq3.trans (hq4.trans (hq5.trans (hq6))))))
    | (go_at_call 210
       refine (ofRead_any t ht br pb6 (skipB l) w1 hb6 hs6).mono ?_; rintro e w2 ⟨hk2, ⟨⟨k, n, ws, ks⟩, r2, v, a2, hev, rfl, hrep, ha2, hr2, hb2⟩ | ⟨r2, a2, hev, rfl, ha2⟩⟩
       all_goals try (obtain ⟨sw, cw, sk, ck, rfl, -⟩ := EQ.def.1 hrep
                      have q2 : w2.heap[w.heap.size]? = some (.cells #[.int .i64 0, .string ⟨#[]⟩, .slice none 0 0, .slice none 0 0] 25 (0, 0)) := by
                        have z1 := hk1.size; simp at z1; (rw [hk2.block _ (by omega) hne]); (exact (hk1.block _ (by simp) hne).trans (blk_new _ _))
                      obtain ⟨k1, k2, k3, k4, k5, k6, k7, k8⟩ := blk4N q2))
    | fail)
  · have z0 := h.lt
    have y1 := hk1.size; simp at y1; have K : Kept (· ≠ br) w w2 := (((Kept.refl _ _).alloc _).trans hk1).trans hk2
    have hS : ∀ b, w.heap.size ≠ b → ((((w2.setCell ⟨w.heap.size, 0, none⟩ (.int .i64 k)).setCell ⟨w.heap.size, 1, none⟩ (.string n)).setCell ⟨w.heap.size, 2, none⟩ (.slice sw ws.length cw)).setCell ⟨w.heap.size, 3, none⟩ (.slice sk ks.length ck)).heap[b]? = w2.heap[b]? := fun b hb => by
      (rw [Below.heap_setCell _ _ _ _ (by simp; omega), Below.heap_setCell _ _ _ _ (by simp; omega), Below.heap_setCell _ _ _ _ (by simp; omega), Below.heap_setCell _ _ _ _ (by simp; omega)])
    (refine bodyPost_ret (v := .agg #[.int .i64 k, .string n, .slice sw ws.length cw, .slice sk ks.length ck]) (by simp [results, Tryz.results205, go_sem, k1, k2, k3, k4]) rfl ⟨?_, Or.inl ⟨.mk k n ws ks, r2, _, a2, ev_rn7 t1 t2 t3 t4 t5 t6 (by simpa only [rOf_skip] using hev), rfl, ?_, ha2, ?_, by have := skipB_length l; omega⟩⟩)
    · exact (((K.setCell (fun h => by simp at h) _).setCell (fun h => by simp at h) _).setCell (fun h => by simp at h) _).setCell (fun h => by simp at h) _
    · refine EQ.move (fun b hb hok => ?_) _ _ hrep
      (exact ⟨hS b (by omega), by omega⟩)
    · exact (((hr2.other hne _).other hne _).other hne _).other hne _
  · exact ⟨rfl, (((Kept.refl _ _).alloc _).trans hk1).trans hk2, Or.inr ⟨r2, a2, ev_rn7 t1 t2 t3 t4 t5 t6 (by simpa only [rOf_skip] using hev), rfl, ha2⟩⟩
set_option maxHeartbeats 1000000 in
theorem rn_way4 (br : Nat) (t : ByteArray) (ht : t.size ≤ 20000) (w : World) (a m : Nat) (l r : List UInt8) (ha : At t a l) (h : TS br w t a) (hm : r.length < m) (ih : ExReads rThen 139 t m) (t1 : takeS [126] l = none) (t2 : takeS [33] l = none) (t3 : takeS [63] l = none) (t4 : takeS [40] l = some r) :
    Calls Tryz.prog 205 #[.pointer (some ⟨br, 0, none⟩)] w (ExPost rNot br t l w) := by
  (have hne : w.heap.size ≠ br := by have := h.lt; omega); have hll := takeS_len t4; simp only [List.length_cons, List.length_nil] at hll
  go_enter Tryz.func205, Tryz.ntmps205
  go_wp2_with (first
    | (go_at_call_of 176 (Value.string ⟨#[126]⟩)
       refine (takeT_no br t ⟨#[126]⟩ ht _ a l ha (h.alloc _) t1).mono ?_
       rintro e u1 ⟨rfl, ⟨pb1, hb1, hs1⟩, hq1⟩)
    | (go_at_call_of 176 (Value.string ⟨#[33]⟩)
       (refine (takeT_no br t ⟨#[33]⟩ ht _ pb1 (skipB l) hb1 hs1 (by rw [takeS_skip]; exact t2)).mono ?_); rintro e u2 ⟨rfl, ⟨pb2, hb2, hs2⟩, hq2⟩
       rw [skipB_idem] at hb2)
    | (go_at_call_of 176 (Value.string ⟨#[63]⟩)
       (refine (takeT_no br t ⟨#[63]⟩ ht _ pb2 (skipB l) hb2 hs2 (by rw [takeS_skip]; exact t3)).mono ?_); rintro e u3 ⟨rfl, ⟨pb3, hb3, hs3⟩, hq3⟩
       rw [skipB_idem] at hb3)
    | (go_at_call_of 176 (Value.string ⟨#[40]⟩)
       (refine (takeT_yes br t ⟨#[40]⟩ ht (by decide) _ pb3 (skipB l) r hb3 hs3 (by rw [takeS_skip]; exact t4)).mono ?_); rintro e w1 ⟨rfl, ⟨a1, ha1, hr1⟩, hk0⟩; have hk1 := hq1.trans (hq2.trans (hq3.trans (hk0)))
       clear hk0)
    | (go_at_call 139
       refine (ih br a1 r w1 ha1 hr1 hm).mono ?_; rintro e w2 ⟨hk2, ⟨⟨k, n, ws, ks⟩, r2, v, a2, hev, rfl, hrep, ha2, hr2, hb2⟩ | ⟨r2, a2, hev, rfl, ha2⟩⟩
       all_goals try (obtain ⟨sw, cw, sk, ck, rfl, -⟩ := EQ.def.1 hrep
                      rcases hcl : takeS [41] r2 with _ | r3))
    | (go_at_call 209
       (refine (needT_yes br t ⟨#[41]⟩ ht (by decide) _ a2 r2 r3 ha2 (hr2.alloc _) hcl).mono ?_); rintro e w3 ⟨rfl, ⟨a3, ha3, hr3⟩, hk3⟩; (have hn2 : w2.heap.size ≠ br := by have := hr2.lt; omega)
       have q2 : w3.heap[w.heap.size]? = some (.cells #[.int .i64 0, .string ⟨#[]⟩, .slice none 0 0, .slice none 0 0] 25 (0, 0)) := by
         have z1 := hk1.size; have z2 := hk2.size; simp at z1; (rw [hk3.block _ (by simp; omega) hne, Below.heap_alloc _ _ _ (by omega), hk2.block _ (by omega) hne]); (exact (hk1.block _ (by simp) hne).trans (blk_new _ _))
       (have q3 : w3.heap[w2.heap.size]? = some (.cells #[.int .i64 k, .string n, .slice sw ws.length cw, .slice sk ks.length ck] 25 (0, 0)) := (hk3.block _ (by simp) hn2).trans (blk_new _ _)); obtain ⟨k1, k2, k3, k4, k5, k6, k7, k8⟩ := blk4N q2
       obtain ⟨g1, g2, g3, g4, g5, g6, g7, g8⟩ := blk4N q3)
    | (go_at_call 209
       refine (needT_no br t ⟨#[41]⟩ ht _ a2 r2 ha2 (hr2.alloc _) hcl).mono ?_
       rintro e w3 ⟨rfl, hk3⟩)
    | fail)
  · exact ⟨rfl, ((((Kept.refl _ _).alloc _).trans hk1).trans (hk2.alloc _)).trans hk3, Or.inr ⟨skipB r2, _, by have := ev_rn4 t1 t2 t3 t4 hev; rwa [Rd.shut, hcl] at this, rfl, ha2.skipped⟩⟩
  · have z0 := h.lt
    have y1 := hk1.size; have y2 := hk2.size; simp at y1; have z5 := takeS_len hcl; simp only [List.length_cons, List.length_nil] at z5; have K3 : Kept (· ≠ br) w2 w3 := ((Kept.refl _ _).alloc _).trans hk3; have K : Kept (· ≠ br) w w3 := (((Kept.refl _ _).alloc _).trans hk1).trans (hk2.trans K3)
    have hS : ∀ b, w.heap.size ≠ b → ((((w3.setCell ⟨w.heap.size, 0, none⟩ (.int .i64 k)).setCell ⟨w.heap.size, 1, none⟩ (.string n)).setCell ⟨w.heap.size, 2, none⟩ (.slice sw ws.length cw)).setCell ⟨w.heap.size, 3, none⟩ (.slice sk ks.length ck)).heap[b]? = w3.heap[b]? := fun b hb => by
      (rw [Below.heap_setCell _ _ _ _ (by simp; omega), Below.heap_setCell _ _ _ _ (by simp; omega), Below.heap_setCell _ _ _ _ (by simp; omega), Below.heap_setCell _ _ _ _ (by simp; omega)])
    (refine bodyPost_ret (v := .agg #[.int .i64 k, .string n, .slice sw ws.length cw, .slice sk ks.length ck]) (by simp [results, Tryz.results205, go_sem, k1, k2, k3, k4]) rfl ⟨?_, Or.inl ⟨.mk k n ws ks, r3, _, a3, by have := ev_rn4 t1 t2 t3 t4 hev; rwa [Rd.shut, hcl] at this, rfl, ?_, ha3, ?_, by omega⟩⟩)
    · exact (((K.setCell (fun h => by simp at h) _).setCell (fun h => by simp at h) _).setCell (fun h => by simp at h) _).setCell (fun h => by simp at h) _
    · refine EQ.move (fun b hb hok => ?_) _ _ hrep
      (exact ⟨(hS b (by omega)).trans (K3.block b hb (by omega)), by omega⟩)
    · exact (((hr3.other hne _).other hne _).other hne _).other hne _
  · exact ⟨rfl, (((Kept.refl _ _).alloc _).trans hk1).trans hk2, Or.inr ⟨r2, a2, ev_rn4 t1 t2 t3 t4 hev, rfl, ha2⟩⟩
/-- A 'not' is read, where what is shorter is. -/
theorem rnot_step (t : ByteArray) (ht : t.size ≤ 20000) (m : Nat) (ihN : ExReads rNot 205 t m) (ihT : ExReads rThen 139 t m) : ExReads rNot 205 t (m + 1) := by
  intro br a l w ha h hm
  rcases t1 : takeS [126] l with _ | r
  · rcases t2 : takeS [33] l with _ | r
    · rcases t3 : takeS [63] l with _ | r
      · rcases t4 : takeS [40] l with _ | r
        · rcases t5 : takeS [49] l with _ | r
          · rcases t6 : takeS [48] l with _ | r
            · exact rn_way7 br t ht w a l ha h t1 t2 t3 t4 t5 t6
            · exact rn_way6 br t ht w a l r ha h t1 t2 t3 t4 t5 t6
          · exact rn_way5 br t ht w a l r ha h t1 t2 t3 t4 t5
        · have hl := takeS_len t4
          simp only [List.length_cons, List.length_nil] at hl; (exact rn_way4 br t ht w a m l r ha h (by omega) ihT t1 t2 t3 t4)
      · have hl := takeS_len t3
        simp only [List.length_cons, List.length_nil] at hl; (exact rn_way3 br t ht w a l r ha h m (by omega) ihN t1 t2 t3)
    · have hl := takeS_len t2
      simp only [List.length_cons, List.length_nil] at hl; (exact rn_way2 br t ht w a l r ha h m (by omega) ihN t1 t2)
  · have hl := takeS_len t1
    simp only [List.length_cons, List.length_nil] at hl; (exact rn_way1 br t ht w a m l r ha h (by omega) ihN t1)
end Go.Proofs.YtheiikkeelbjnajGreat
