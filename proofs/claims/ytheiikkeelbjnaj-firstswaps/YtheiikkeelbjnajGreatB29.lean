/- Texts of one proof, one behind the other: FR9, FRB, FRC, FRD, FRE. -/
import Derived.Test.YtheiikkeelbjnajGreatB27
import Derived.Test.YtheiikkeelbjnajGreatB22
import Derived.Deep.RegionHeld3
/- Walks: words that are read. -/
namespace Go.Proofs.YtheiikkeelbjnajGreat
open Go.RowKit Go.Sort

/-- The words read so far: what is kept from round to round. -/
def WdsAt (t : ByteArray) (br : Nat) (l : List UInt8) (w wr : World) (xs : List Wd) (ad : Option Addr) (cp : Nat) (a' : Nat) (l' : List UInt8) : Prop :=
  At t a' l' ∧ TS br wr t a' ∧ Kept (· ≠ br) w wr ∧ KWd w.heap.size wr ad cp xs ∧ Wd.sizes xs + l'.length ≤ l.length ∧ ∀ y, EvR (rMore · xs l') y → EvR (rWords · l) y

set_option maxHeartbeats 1000000 in
theorem wdsRead_step (t : ByteArray) (ht : t.size ≤ 20000) (m : Nat) (ih : WdReads t m) : WdsReads t m := by
  intro br a l w ha h hm; obtain ⟨i0, hi, hz0, hz1, hz2⟩ := infoWd; have HIo : Hid (Tryz.prog.info? 27 = some i0 ∧ i0.zero = some (.agg #[.string ⟨#[]⟩, .slice none 0 0]) ∧ i0.size = 2 ∧ i0.bytes = 40) := ⟨hi, hz0, hz1, hz2⟩; clear hi hz0 hz1 hz2; have HIH : Hid (WdReads t m) := ih; (have HL : Hid (l.length < m ∧ l.length ≤ 20000 ∧ br < w.heap.size) := ⟨hm, by have := ha.len; omega, h.lt⟩); clear ih hm
  go_enter Tryz.func213, Tryz.ntmps213
  go_wp2_with (first
    | (go_at_call 212
       refine (HIH.out br a l w ha h HL.out.1).mono ?_; rintro e w1 ⟨hk1, ⟨⟨n1, ar1⟩, r1, v1, a1, hev1, rfl, hrep1, ha1, hr1, hz1⟩ | ⟨r1, a1, hev1, rfl, ha1⟩⟩
       all_goals try (obtain ⟨sl1, cap1, rfl, -⟩ := WQ.def.1 hrep1))
    | fail)
  · have H1 : Hid (WdsAt t br l w (w1.alloc (.cells #[.string n1, .slice sl1 ar1.length cap1] 27 (0, 0))) [.mk n1 ar1] (some ⟨w1.heap.size, 0, none⟩) 1 a1 r1) :=
      ⟨ha1, hr1.alloc _, hk1.alloc _, KWd.one hk1.size hrep1, by simpa [Wd.sizes] using hz1, fun y hy => ev_words_ok hev1 hy⟩
    clear ha1 hr1 hk1 hrep1 hz1 hev1 ha h
    go_loopg [3] r1.length (fun gz c wr => ∃ xs ad cp a' l', gz = l'.length ∧ c = .slice ad xs.length cp ∧ Hid (WdsAt t br l w wr xs ad cp a' l'))
    case atStart => exact ⟨_, _, _, a1, r1, rfl, rfl, H1⟩
    case round =>
      obtain ⟨xs, ad, cp, a', l', hg, rfl, HA⟩ := hrel; have HG : Hid (gk = l'.length) := hg; clear hg; obtain ⟨ha2, hr2, hk2, hkw2, hz2, hev2⟩ := HA.out
      rcases hT : takeS [44] l' with _ | r
      · rcases hT2 : takeS [41] l' with _ | r
        · go_wp2_with (first
            | (go_at_call 176
               refine (takeT_no br t ⟨#[44]⟩ ht _ a' l' ha2 hr2 hT).mono ?_
               rintro e w3 ⟨rfl, ⟨a3, ha3, hr3⟩, hk3⟩)
            | (go_at_call 209
               (refine (needT_no br t ⟨#[41]⟩ ht _ a3 (skipB l') ha3 hr3 (by rw [takeS_skip]; exact hT2)).mono ?_)
               rintro e w4 ⟨rfl, hk4⟩)
            | fail)
          rw [skipB_idem]; exact ⟨rfl, (hk2.trans hk3).trans hk4, Or.inr ⟨_, _, hev2 _ (ev_more_none hT hT2), rfl, ha2.skipped⟩⟩
        · go_wp2_with (first
            | (go_at_call 176
               refine (takeT_no br t ⟨#[44]⟩ ht _ a' l' ha2 hr2 hT).mono ?_
               rintro e w3 ⟨rfl, ⟨a3, ha3, hr3⟩, hk3⟩)
            | (go_at_call 209
               (refine (needT_yes br t ⟨#[41]⟩ ht (by decide) _ a3 (skipB l') r ha3 hr3 (by rw [takeS_skip]; exact hT2)).mono ?_)
               rintro e w4 ⟨rfl, ⟨a4, ha4, hr4⟩, hk4⟩)
            | fail)
          have K4 : Kept (· ≠ br) wr w4 := hk3.trans hk4; have hbw := HL.out.2.2; have hl4 := takeS_len hT2; simp only [List.length_cons, List.length_nil] at hl4; (refine bodyPost_ret (v := .slice ad xs.length cp) (by simp [results, Tryz.results213, go_sem]) rfl ⟨hk2.trans K4, Or.inl ⟨xs, r, ad, cp, a4, hev2 _ (ev_more_shut hT hT2), rfl, hkw2.same fun b hb1 hb2 => K4.block b hb2 (by omega), ha4, hr4, by omega⟩⟩)
      · have hl4 := takeS_len hT
        simp only [List.length_cons, List.length_nil] at hl4; have hxl := wlen_sizes xs; have hL := HL.out; obtain ⟨hi, hy0, hy1, hy2⟩ := HIo.out
        go_wp2_with (first
          | (go_at_call 176
             (refine (takeT_yes br t ⟨#[44]⟩ ht (by decide) _ a' l' r ha2 hr2 hT).mono ?_)
             rintro e w3 ⟨rfl, ⟨a3, ha3, hr3⟩, hk3⟩)
          | (go_at_call 212
             (refine (HIH.out br a3 r w3 ha3 hr3 (by omega)).mono ?_); rintro e w4 ⟨hk4, ⟨⟨n4, ar4⟩, r4, v4, a4, hev4, rfl, hrep4, ha4, hr4, hz4⟩ | ⟨r4, a4, hev4, rfl, ha4⟩⟩
             all_goals try (obtain ⟨sl4, cap4, rfl, -⟩ := WQ.def.1 hrep4))
          | (at_builtin
             have K4 : Kept (· ≠ br) wr w4 := hk3.trans hk4; have hS := hk2.size
             have hkA : KWd w.heap.size (w4.alloc (.cells #[.string n4, .slice sl4 ar4.length cap4] 27 (0, 0))) ad cp xs := hkw2.same fun b hb1 hb2 => by
               have := K4.size; (rw [Below.heap_alloc _ _ _ (by omega)]); (exact K4.block b hb2 (by omega))
             have HOB : Hid (∀ b, w3.heap.size ≤ b → w.heap.size ≤ b ∧ (Value.slice ad xs.length cp).ownBlock ≠ some b) := fun b hb => by
               have := hk3.size; obtain ⟨cs, ho, -⟩ := hkw2; (exact ⟨by omega, fun e => by have := (ho.lt b e).2; omega⟩)
             obtain ⟨cs, hown, hlq⟩ := hkA; (refine wpList_append_lies _ rfl _ _ 22 rfl w.heap.size 27 i0 (.agg #[.string ⟨#[]⟩, .slice none 0 0]) 2 40 Tryz.underlying22 hi hy0 hy1 hy2 rfl (by decide) _ _ _ rfl hown ⟨w4.heap.size, 0, none⟩ 1 1 [.string n4, .slice sl4 ar4.length cap4] rfl rfl ?_ ?_ (by omega) (by unfold maxLen; omega) (by omega) (by have := K4.size; simp; omega) _ rfl ?_)
             · intro j u hu
               rw [add_none, Nat.zero_add, blk_cell (blk_new w4 _)]; simpa using hu
             · intro u hu
               simp at hu
               rcases hu with rfl | rfl <;> rfl
             intro g5 cp5 w5 hown5 hgrow5 hat5 hlt5; (obtain ⟨hbB, hko⟩ := KWd.app rfl (by have := K4.size; omega) hown hlq (WQ.move (fun b _ hb2 => ⟨rfl, HOB.out b hb2⟩) _ _ hrep4) hown5 hgrow5 hat5); have HK5 : Hid (Below w.heap.size w4 w5 ∧ KWd w.heap.size w5 (some ⟨g5, 0, none⟩) cp5 (xs ++ [.mk n4 ar4])) := ⟨hbB, hko⟩
             clear hbB hko hown5 hgrow5 hat5 hown hlq)
          | fail)
        · obtain ⟨hbB, hko⟩ := HK5.out
          have K5 : Kept (· ≠ br) w w5 := (hk2.trans K4).trans' hbB; (have HA5 : Hid (WdsAt t br l w w5 (xs ++ [.mk n4 ar4]) (some ⟨g5, 0, none⟩) cp5 a4 r4) := ⟨ha4, hr4.same (hbB.block _ hL.2.2), K5, hko, by rw [wsizes_app]; simp only [Wd.sizes]; omega, fun y hy => hev2 y (ev_more_ok hT hev4 hy)⟩); (have hs4 : 0 < (Wd.mk n4 ar4).size := by simp [Wd.size]); clear hbB hko K5
          go_roundg r4.length
          case measure => have := HG.out; omega
          case rel => exact ⟨_, _, _, a4, r4, rfl, by rw [List.length_append]; rfl, HA5⟩
        · exact ⟨rfl, (hk2.trans hk3).trans hk4, Or.inr ⟨r4, a4, hev2 _ (ev_more_bad hT hev4), rfl, ha4⟩⟩
  · exact ⟨rfl, hk1, Or.inr ⟨r1, a1, ev_words_bad hev1, rfl, ha1⟩⟩
theorem wdsRead_all (t : ByteArray) (ht : t.size ≤ 20000) : ∀ m, WdsReads t m
  | 0 => fun _ _ _ _ _ _ h => absurd h (Nat.not_lt_zero _)
  | m + 1 => wdsRead_step t ht (m + 1) (wdRead_step t ht m (wdsRead_all t ht m))
/-- A word that is read, whatever the text. -/
theorem wdRead_any (t : ByteArray) (ht : t.size ≤ 20000) (br a : Nat) (l : List UInt8) (w : World) (ha : At t a l) (h : TS br w t a) :
    Calls Tryz.prog 212 #[.pointer (some ⟨br, 0, none⟩)] w (WdPost br t l w) :=
  wdRead_step t ht l.length (wdsRead_all t ht _) br a l w ha h (Nat.lt_succ_self _)
end Go.Proofs.YtheiikkeelbjnajGreat
/- Walks: an expression of words that is read: the ways without '='. -/
namespace Go.Proofs.YtheiikkeelbjnajGreat
open Go.RowKit Go.Sort

/-- What reading an expression leaves. -/
def ExPost (K : Nat → List UInt8 → Option (Rd Ex)) (br : Nat) (t : ByteArray) (l : List UInt8) (w : World) (e : Ending) (w' : World) : Prop :=
  Kept (· ≠ br) w w' ∧ ((∃ x r v a', EvR (K · l) (.ok x r) ∧ e = .returned v ∧ EQ w' (w.heap.size ≤ ·) x v ∧ At t a' r ∧ TS br w' t a' ∧ x.size + r.length ≤ l.length) ∨ (∃ r a', EvR (K · l) (.bad r) ∧ e = .panicked (stopC 1 (a' : Nat)) ∧ At t a' r))
theorem EvR.same {α β : Type} {K : Nat → Option (Rd α)} {K' : Nat → Option (Rd β)} {r : Rd α} {x : Rd β} (h : EvR K r) (hs : ∀ k, K k = some r → K' k = some x) : EvR K' x := by
  obtain ⟨N, hN⟩ := h; (exact ⟨N, fun k hk => hs k (hN k hk)⟩)
theorem ev_of_bad {l r : List UInt8} (h : EvR (rWord · l) (.bad r)) : EvR (rOf · l) (.bad r) := h.same fun k hk => by simp only [rOf, hk]
theorem ev_of_var {l r : List UInt8} {n : ByteArray} {ws : List Wd} (h : EvR (rWord · l) (.ok (.mk n ws) r)) (ht : takeS [61] r = none) (hv : isNm n.data.toList = true) : EvR (rOf · l) (.bad (skipB r)) := h.same fun k hk => by simp only [rOf, hk, ht, hv, if_true]
theorem ev_of_pred {l r : List UInt8} {n : ByteArray} {ws : List Wd} (h : EvR (rWord · l) (.ok (.mk n ws) r)) (ht : takeS [61] r = none) (hv : isNm n.data.toList = false) : EvR (rOf · l) (.ok (.mk 1 n ws []) (skipB r)) := h.same fun k hk => by simp [rOf, hk, ht, hv]
theorem ev_of_same_bad {l r r1 r2 : List UInt8} {x : Wd} (h : EvR (rWord · l) (.ok x r)) (ht : takeS [61] r = some r1) (h1 : EvR (rWord · r1) (.bad r2)) : EvR (rOf · l) (.bad r2) := by
  obtain ⟨N, hN⟩ := h; obtain ⟨M, hM⟩ := h1; (exact ⟨max N M, fun k hk => by simp only [rOf, hN k (by omega), ht, hM k (by omega)]⟩)
theorem ev_of_same {l r r1 r2 : List UInt8} {x y : Wd} (h : EvR (rWord · l) (.ok x r)) (ht : takeS [61] r = some r1) (h1 : EvR (rWord · r1) (.ok y r2)) : EvR (rOf · l) (.ok (.mk 2 e0 [x, y] []) r2) := by
  obtain ⟨N, hN⟩ := h; obtain ⟨M, hM⟩ := h1; (exact ⟨max N M, fun k hk => by simp only [rOf, hN k (by omega), ht, hM k (by omega)]⟩)

/-- What is known of the ways of reading a word, one by one. -/
theorem WdPost.ok {br : Nat} {t : ByteArray} {l : List UInt8} {w : World} {e : Ending} {w' : World} (h : WdPost br t l w e w') {x : Wd} {r : List UInt8} (hev : EvR (rWord · l) (.ok x r)) : Kept (· ≠ br) w w' ∧ ∃ v a', e = .returned v ∧ WQ w' (w.heap.size ≤ ·) x v ∧ At t a' r ∧ TS br w' t a' ∧ x.size + r.length ≤ l.length := by
  obtain ⟨hk, ⟨x', r', v, a', hev', he, h1, h2, h3, h4⟩ | ⟨r', a', hev', he, h1⟩⟩ := h
  · obtain ⟨rfl, rfl⟩ := Rd.ok.inj (hev.unique hev')
    exact ⟨hk, v, a', he, h1, h2, h3, h4⟩
  · cases hev.unique hev'
theorem WdPost.bad {br : Nat} {t : ByteArray} {l : List UInt8} {w : World} {e : Ending} {w' : World} (h : WdPost br t l w e w') {r : List UInt8} (hev : EvR (rWord · l) (.bad r)) : Kept (· ≠ br) w w' ∧ ∃ a' : Nat, e = .panicked (stopC 1 (a' : Nat)) ∧ At t a' r := by
  obtain ⟨hk, ⟨x', r', v, a', hev', he, h1, h2, h3, h4⟩ | ⟨r', a', hev', he, h1⟩⟩ := h
  · cases hev.unique hev'
  · obtain rfl := Rd.bad.inj (hev.unique hev')
    exact ⟨hk, a', he, h1⟩
set_option maxHeartbeats 1000000 in
theorem of_bad (br : Nat) (t : ByteArray) (ht : t.size ≤ 20000) (w : World) (a : Nat) (l r : List UInt8) (ha : At t a l) (h : TS br w t a) (hev : EvR (rWord · l) (.bad r)) :
    Calls Tryz.prog 210 #[.pointer (some ⟨br, 0, none⟩)] w (ExPost rOf br t l w) := by
  go_enter Tryz.func210, Tryz.ntmps210
  go_wp2_with (first
    | (go_at_call 212
       refine (wdRead_any t ht br a l _ ha (h.alloc _)).mono ?_; intro e w1 hp1
       obtain ⟨hk1, a1, rfl, ha1⟩ := hp1.bad hev)
    | fail)
  exact ⟨rfl, ((Kept.refl _ _).alloc _).trans hk1, Or.inr ⟨r, a1, ev_of_bad hev, rfl, ha1⟩⟩
end Go.Proofs.YtheiikkeelbjnajGreat
/- Walks: an expression of words that is read: a variable alone, a predicate. -/
namespace Go.Proofs.YtheiikkeelbjnajGreat
open Go.RowKit Go.Sort

set_option maxHeartbeats 1000000 in
theorem of_plain (br : Nat) (t : ByteArray) (ht : t.size ≤ 20000) (w : World) (a : Nat) (l r : List UInt8) (n : ByteArray) (ws : List Wd) (ha : At t a l) (h : TS br w t a) (hev : EvR (rWord · l) (.ok (.mk n ws) r)) (hT : takeS [61] r = none) :
    Calls Tryz.prog 210 #[.pointer (some ⟨br, 0, none⟩)] w (ExPost rOf br t l w) := by
  (have hne : w.heap.size ≠ br := by have := h.lt; omega)
  go_enter Tryz.func210, Tryz.ntmps210
  go_wp2_with (first
    | (go_at_call 212
       refine (wdRead_any t ht br a l _ ha (h.alloc _)).mono ?_; intro e w1 hp1; obtain ⟨hk1, v1, a1, rfl, hq1, ha1, hr1, hz1⟩ := hp1.ok hev
       obtain ⟨sl, cap, rfl, hn1, -⟩ := WQ.def.1 hq1)
    | (go_at_call 176
       refine (takeT_no br t ⟨#[61]⟩ ht _ a1 r ha1 (hr1.alloc _) hT).mono ?_; rintro e w3 ⟨rfl, ⟨a3, ha3, hr3⟩, hk3⟩; (have hn3 : w1.heap.size ≠ br := by have := hr1.lt; omega); (have q3 : w3.heap[w1.heap.size]? = some (.cells #[.string n, .slice sl ws.length cap] 27 (0, 0)) := (hk3.block _ (by simp) hn3).trans (blk_new _ _))
       obtain ⟨m1, m2, m3, m4⟩ := blk2 q3)
    | (go_at_call 46
       refine (var_any n hn1 _).mono ?_; rintro e w4 ⟨rfl, hb4⟩; (have K4 : Kept (· ≠ br) w1 w4 := (((Kept.refl _ _).alloc _).trans hk3).trans ⟨hb4.os, hb4.tape, hb4.output, hb4.size, fun k hk _ => hb4.block k hk⟩); have hr4 : TS br w4 t a3 := hr3.same (hb4.block _ hr3.lt); have q4 := (hb4.block _ (lt_of_block q3)).trans q3
       have q2 : w4.heap[w.heap.size]? = some (.cells #[.int .i64 0, .string ⟨#[]⟩, .slice none 0 0, .slice none 0 0] 25 (0, 0)) := by
         have z1 := hk1.size; simp at z1; (rw [K4.block _ (by omega) hne]); (exact (hk1.block _ (by simp) hne).trans (blk_new _ _))
       clear m1 m2 m3 m4; obtain ⟨m1, m2, m3, m4⟩ := blk2 q4; obtain ⟨k1, k2, k3, k4, k5, k6, k7, k8⟩ := blk4N q2
       rcases hv : isNm n.data.toList with _ | _)
    | (go_at_call 179
       refine (wrongT_any br t ht _ a3 (skipB r) ha3 hr4).mono ?_
       rintro e w5 ⟨rfl, hk5⟩)
    | fail)
  · have KW : Kept (· ≠ br) w w4 := (((Kept.refl _ _).alloc _).trans hk1).trans K4
    have hbr := h.lt; have hsr := skipB_length r
    have hS : ∀ b, b < w1.heap.size → w.heap.size + 1 ≤ b → ((((w4.setCell ⟨w.heap.size, 0, none⟩ (.int .i64 1)).setCell ⟨w.heap.size, 1, none⟩ (.string n)).setCell ⟨w.heap.size, 2, none⟩ (.slice sl ws.length cap)).setCell ⟨w.heap.size, 3, none⟩ (.slice none 0 0)).heap[b]? = w1.heap[b]? ∧ w.heap.size ≤ b := fun b hb hok => by
      (rw [Below.heap_setCell _ _ _ _ (by simp; omega), Below.heap_setCell _ _ _ _ (by simp; omega), Below.heap_setCell _ _ _ _ (by simp; omega), Below.heap_setCell _ _ _ _ (by simp; omega)]); (exact ⟨K4.block b hb (by omega), by omega⟩)
    (refine bodyPost_ret (v := .agg #[.int .i64 1, .string n, .slice sl ws.length cap, .slice none 0 0]) (by simp [results, Tryz.results210, go_sem, k1, k2, k3, k4]) rfl ⟨?_, Or.inl ⟨.mk 1 n ws [], skipB r, _, a3, ev_of_pred hev hT hv, rfl, ?_, ha3, ?_, ?_⟩⟩)
    · exact (((KW.setCell (fun h => by simp at h) _).setCell (fun h => by simp at h) _).setCell (fun h => by simp at h) _).setCell (fun h => by simp at h) _
    · exact EQ.def.2 ⟨sl, cap, none, 0, rfl, hn1, hq1.wlq.2.2.2.move (fun b hb hok => hS b hb (by simpa using hok)), by simp, by simp, fun h => absurd rfl h⟩
    · exact (((hr4.other hne _).other hne _).other hne _).other hne _
    · simp only [Wd.size] at hz1
      simp only [Ex.size, Ex.sizes]; omega
  · rw [skipB_idem]
    exact ⟨rfl, ((((Kept.refl _ _).alloc _).trans hk1).trans K4).trans hk5, Or.inr ⟨_, _, ev_of_var hev hT hv, rfl, ha1.skipped⟩⟩
end Go.Proofs.YtheiikkeelbjnajGreat
/- Walks: an expression of words that is read: two words about '='. -/
namespace Go.Proofs.YtheiikkeelbjnajGreat
open Go.RowKit Go.Sort

set_option maxHeartbeats 2000000 in
theorem of_same (br : Nat) (t : ByteArray) (ht : t.size ≤ 20000) (w : World) (a : Nat) (l r r2 r3 : List UInt8) (n n' : ByteArray) (ws ws' : List Wd) (ha : At t a l) (h : TS br w t a) (hev : EvR (rWord · l) (.ok (.mk n ws) r)) (hT : takeS [61] r = some r2) (hx : EvR (rWord · r2) (.ok (.mk n' ws') r3)) :
    Calls Tryz.prog 210 #[.pointer (some ⟨br, 0, none⟩)] w (ExPost rOf br t l w) := by
  (have hne : w.heap.size ≠ br := by have := h.lt; omega)
  go_enter Tryz.func210, Tryz.ntmps210
  go_wp2_with (first
    | (go_at_call 212
       refine (wdRead_any t ht br a l _ ha (h.alloc _)).mono ?_; intro e w1 hp1; obtain ⟨hk1, v1, a1, rfl, hq1, ha1, hr1, hz1⟩ := hp1.ok hev
       obtain ⟨sl, cap, rfl, hn1, -⟩ := WQ.def.1 hq1)
    | (go_at_call 176
       (refine (takeT_yes br t ⟨#[61]⟩ ht (by decide) _ a1 r r2 ha1 (hr1.alloc _) hT).mono ?_)
       rintro e w2 ⟨rfl, ⟨a2, ha2, hr2⟩, hk2⟩)
    | fail)
  (have hn1' : w1.heap.size ≠ br := by have := hr1.lt; omega); have zz := hk1.size; simp at zz; (have q3 : w2.heap[w1.heap.size]? = some (.cells #[.string n, .slice sl ws.length cap] 27 (0, 0)) := (hk2.block _ (by simp) hn1').trans (blk_new _ _))
  have q2 : w2.heap[w.heap.size]? = some (.cells #[.int .i64 0, .string ⟨#[]⟩, .slice none 0 0, .slice none 0 0] 25 (0, 0)) := by
    (rw [hk2.block _ (by simp; omega) hne, Below.heap_alloc _ _ _ (by omega)]); (exact (hk1.block _ (by simp) hne).trans (blk_new _ _))
  have z2 := lt_of_block q2; have z3 := lt_of_block q3; obtain ⟨g1, g2, g3, g4⟩ := blk2 q3; obtain ⟨k1, k2, k3, k4, k5, k6, k7, k8⟩ := blk4N q2; (have d1 : ¬ w.heap.size = w1.heap.size := by omega); (have d2 : ¬ w1.heap.size = w.heap.size := by omega); have KK : Kept (· ≠ br) w w2.drew := ((((Kept.refl _ _).alloc _).trans hk1).trans (((Kept.refl _ _).alloc _).trans hk2)).drew
  go_region_held3 (fun w' => w'.cell? ⟨w1.heap.size, 0, none⟩ = some (.string n) ∧ w'.cell? ⟨w1.heap.size, 1, none⟩ = some (.slice sl ws.length cap)) (go_keep)
    (first
     | (go_at_call 212
        refine (wdRead_any t ht br a2 r2 w2.drew ha2 (hr2.same rfl)).mono ?_; intro e w3 hp3; obtain ⟨hk3, v3, a3, rfl, hq3, ha3, hr3, hz3⟩ := hp3.ok hx; obtain ⟨sl', cap', rfl, hn3, -⟩ := WQ.def.1 hq3; have q4 : w3.heap[w.heap.size]? = some (.cells #[.int .i64 0, .string ⟨#[]⟩, .slice none 0 0, .slice none 0 0] 25 (0, 0)) := (hk3.block _ z2 hne).trans q2; have q5 : w3.heap[w1.heap.size]? = some (.cells #[.string n, .slice sl ws.length cap] 27 (0, 0)) := (hk3.block _ z3 hn1').trans q3; have q6 : (w3.alloc (.cells #[.string n, .slice sl ws.length cap, .string n', .slice sl' ws'.length cap'] 27 (0, 0))).heap[w.heap.size]? = some (.cells #[.int .i64 0, .string ⟨#[]⟩, .slice none 0 0, .slice none 0 0] 25 (0, 0)) := (Below.heap_alloc _ _ _ (lt_of_block q4)).trans q4; have q7 : (w3.alloc (.cells #[.string n, .slice sl ws.length cap, .string n', .slice sl' ws'.length cap'] 27 (0, 0))).heap[w1.heap.size]? = some (.cells #[.string n, .slice sl ws.length cap] 27 (0, 0)) := (Below.heap_alloc _ _ _ (lt_of_block q5)).trans q5; obtain ⟨o1, o2, o3, o4⟩ := blk2 q7; obtain ⟨p1, p2, p3, p4⟩ := blk2 q5
        obtain ⟨m1, m2, m3, m4, m5, m6, m7, m8⟩ := blk4N q6)
     | fail)
  go_wp2; have hbr := h.lt; have y3 := hk3.size; have y4 : w2.drew.heap.size = w2.heap.size := rfl; have K2 : Kept (· ≠ br) w1 w3 := (((Kept.refl _ _).alloc _).trans hk2).drew.trans hk3; have y5 := K2.size; have hl := takeS_len hT; simp only [List.length_cons, List.length_nil] at hl; obtain ⟨F, hF⟩ : ∃ F, F = ((((w3.alloc (.cells #[.string n, .slice sl ws.length cap, .string n', .slice sl' ws'.length cap'] 27 (0, 0))).setCell ⟨w.heap.size, 0, none⟩ (.int .i64 2)).setCell ⟨w.heap.size, 1, none⟩ (.string ⟨#[]⟩)).setCell ⟨w.heap.size, 2, none⟩ (.slice (some ⟨w3.heap.size, 0, none⟩) 2 2)).setCell ⟨w.heap.size, 3, none⟩ (.slice none 0 0) := ⟨_, rfl⟩
  have hS : ∀ b, w.heap.size ≠ b → F.heap[b]? = (w3.alloc (.cells #[.string n, .slice sl ws.length cap, .string n', .slice sl' ws'.length cap'] 27 (0, 0))).heap[b]? := fun b hb => by
    (rw [hF, Below.heap_setCell _ _ _ _ (fun e => hb e.symm), Below.heap_setCell _ _ _ _ (fun e => hb e.symm), Below.heap_setCell _ _ _ _ (fun e => hb e.symm), Below.heap_setCell _ _ _ _ (fun e => hb e.symm)])
  (have hF3 := (hS w3.heap.size (by omega)).trans (blk_new _ _))
  have hE : EQ F (w.heap.size ≤ ·) (.mk 2 e0 [.mk n ws, .mk n' ws'] []) (.agg #[.int .i64 2, .string ⟨#[]⟩, .slice (some ⟨w3.heap.size, 0, none⟩) 2 2, .slice none 0 0]) := by
    (refine EQ.def.2 ⟨_, 2, none, 0, rfl, by decide, ⟨by simp, by simp [maxLen], fun _ => ⟨w3.heap.size, 0, rfl, by omega, WQs.cons.2 ⟨⟨_, _, blk_cell hF3 0, blk_cell hF3 1, ?_⟩, WQs.cons.2 ⟨⟨_, _, blk_cell hF3 2, blk_cell hF3 3, ?_⟩, WQs.nil⟩⟩⟩⟩, by simp, by simp, fun h => absurd rfl h⟩)
    · refine WQ.move (fun b hb hok => ?_) _ _ hq1
      simp at hok; (exact ⟨(hS b (by omega)).trans ((Below.heap_alloc _ _ _ (by omega)).trans (K2.block b hb (by omega))), by omega⟩)
    · refine WQ.move (fun b hb hok => ?_) _ _ hq3
      (exact ⟨(hS b (by omega)).trans (Below.heap_alloc _ _ _ hb), by omega⟩)
  (refine bodyPost_ret (v := .agg #[.int .i64 2, .string ⟨#[]⟩, .slice (some ⟨w3.heap.size, 0, none⟩) 2 2, .slice none 0 0]) (by simp [results, Tryz.results210, go_sem, m1, m2, m3, m4]) rfl ⟨?_, Or.inl ⟨.mk 2 e0 [.mk n ws, .mk n' ws'] [], r3, _, a3, ev_of_same hev hT hx, rfl, by rw [← hF]; exact hE, ha3, ?_, ?_⟩⟩)
  · exact (((((KK.trans hk3).alloc _).setCell (fun h => by simp at h) _).setCell (fun h => by simp at h) _).setCell (fun h => by simp at h) _).setCell (fun h => by simp at h) _
  · exact ((((hr3.alloc _).other hne _).other hne _).other hne _).other hne _
  · simp only [Wd.size] at hz1 hz3
    simp only [Ex.size, Ex.sizes, Wd.sizes, Wd.size]; omega
end Go.Proofs.YtheiikkeelbjnajGreat
/- The reader of first order as data: what each way says, and that each text has an answer. -/
namespace Go.Proofs.YtheiikkeelbjnajGreat

theorem ev_rn1 {l r : List UInt8} {x : Rd Ex} (t1 : takeS [126] l = some r) (h : EvR (rNot · r) x) : EvR (rNot · l) (x.un 5 e0) := h.step fun k hk => by simp only [rNot, t1, hk, Option.map_some]
theorem ev_rn2 {l r : List UInt8} {x : Rd Ex} (t1 : takeS [126] l = none) (t2 : takeS [33] l = some r) (h : EvR (rQu · 9 r) x) : EvR (rNot · l) x := h.step fun k hk => by simp only [rNot, t1, t2, hk]
theorem ev_rn3 {l r : List UInt8} {x : Rd Ex} (t1 : takeS [126] l = none) (t2 : takeS [33] l = none) (t3 : takeS [63] l = some r) (h : EvR (rQu · 10 r) x) : EvR (rNot · l) x := h.step fun k hk => by simp only [rNot, t1, t2, t3, hk]
theorem ev_rn4 {l r : List UInt8} {x : Rd Ex} (t1 : takeS [126] l = none) (t2 : takeS [33] l = none) (t3 : takeS [63] l = none) (t4 : takeS [40] l = some r) (h : EvR (rThen · r) x) : EvR (rNot · l) x.shut := h.step fun k hk => by simp only [rNot, t1, t2, t3, t4, hk, Option.map_some]
theorem ev_rn5 {l r : List UInt8} (t1 : takeS [126] l = none) (t2 : takeS [33] l = none) (t3 : takeS [63] l = none) (t4 : takeS [40] l = none) (t5 : takeS [49] l = some r) : EvR (rNot · l) (.ok (.mk 3 e0 [] []) r) := EvR.now fun k => by simp only [rNot, t1, t2, t3, t4, t5]
theorem ev_rn6 {l r : List UInt8} (t1 : takeS [126] l = none) (t2 : takeS [33] l = none) (t3 : takeS [63] l = none) (t4 : takeS [40] l = none) (t5 : takeS [49] l = none) (t6 : takeS [48] l = some r) : EvR (rNot · l) (.ok (.mk 4 e0 [] []) r) := EvR.now fun k => by simp only [rNot, t1, t2, t3, t4, t5, t6]
theorem ev_rn7 {l : List UInt8} {x : Rd Ex} (t1 : takeS [126] l = none) (t2 : takeS [33] l = none) (t3 : takeS [63] l = none) (t4 : takeS [40] l = none) (t5 : takeS [49] l = none) (t6 : takeS [48] l = none) (h : EvR (rOf · l) x) : EvR (rNot · l) x := h.step fun k hk => by simp only [rNot, t1, t2, t3, t4, t5, t6, hk]
theorem ev_qu_ok {q : Int} {l : List UInt8} {x : Rd Ex} (hv : isNm (lettL (skipB l)) = true) (h : EvR (rNot · ((skipB l).drop (lettL (skipB l)).length)) x) : EvR (rQu · q l) (x.un q ⟨(lettL (skipB l)).toArray⟩) := h.step fun k hk => by simp only [rQu, hv, hk, if_true, Option.map_some]
theorem ev_qu_no {q : Int} {l : List UInt8} (hv : isNm (lettL (skipB l)) = false) : EvR (rQu · q l) (.bad (skipB l)) := EvR.now fun k => by simp [rQu, hv]

theorem ev_rand_bad {l r : List UInt8} (h : EvR (rNot · l) (.bad r)) : EvR (rAnd · l) (.bad r) := h.step fun k hk => by simp only [rAnd, hk]
theorem ev_rand_ok {l r : List UInt8} {f : Ex} {x : Rd Ex} (h : EvR (rNot · l) (.ok f r)) (h1 : EvR (rAnds · f r) x) : EvR (rAnd · l) x := h.step2 h1 fun k hk hk1 => by simp only [rAnd, hk, hk1]
theorem ev_rands_no {l : List UInt8} {f : Ex} (t : takeS [38] l = none) : EvR (rAnds · f l) (.ok f (skipB l)) := EvR.now fun k => by simp only [rAnds, t]
theorem ev_rands_bad {l r r1 : List UInt8} {f : Ex} (t : takeS [38] l = some r) (h : EvR (rNot · r) (.bad r1)) : EvR (rAnds · f l) (.bad r1) := h.step fun k hk => by simp only [rAnds, t, hk]
theorem ev_rands_ok {l r r1 : List UInt8} {f g : Ex} {x : Rd Ex} (t : takeS [38] l = some r) (h : EvR (rNot · r) (.ok g r1)) (h1 : EvR (rAnds · (.mk 6 e0 [] [f, g]) r1) x) : EvR (rAnds · f l) x := h.step2 h1 fun k hk hk1 => by simp only [rAnds, t, hk, hk1]
theorem ev_ror_bad {l r : List UInt8} (h : EvR (rAnd · l) (.bad r)) : EvR (rOr · l) (.bad r) := h.step fun k hk => by simp only [rOr, hk]
theorem ev_ror_ok {l r : List UInt8} {f : Ex} {x : Rd Ex} (h : EvR (rAnd · l) (.ok f r)) (h1 : EvR (rOrs · f r) x) : EvR (rOr · l) x := h.step2 h1 fun k hk hk1 => by simp only [rOr, hk, hk1]
theorem ev_rors_no {l : List UInt8} {f : Ex} (t : takeS [124] l = none) : EvR (rOrs · f l) (.ok f (skipB l)) := EvR.now fun k => by simp only [rOrs, t]
theorem ev_rors_bad {l r r1 : List UInt8} {f : Ex} (t : takeS [124] l = some r) (h : EvR (rAnd · r) (.bad r1)) : EvR (rOrs · f l) (.bad r1) := h.step fun k hk => by simp only [rOrs, t, hk]
theorem ev_rors_ok {l r r1 : List UInt8} {f g : Ex} {x : Rd Ex} (t : takeS [124] l = some r) (h : EvR (rAnd · r) (.ok g r1)) (h1 : EvR (rOrs · (.mk 7 e0 [] [f, g]) r1) x) : EvR (rOrs · f l) x := h.step2 h1 fun k hk hk1 => by simp only [rOrs, t, hk, hk1]
theorem ev_rth_bad {l r : List UInt8} (h : EvR (rOr · l) (.bad r)) : EvR (rThen · l) (.bad r) := h.step fun k hk => by simp only [rThen, hk]
theorem ev_rth_no {l r : List UInt8} {f : Ex} (h : EvR (rOr · l) (.ok f r)) (t : takeS [45, 62] r = none) : EvR (rThen · l) (.ok f (skipB r)) := h.step fun k hk => by simp only [rThen, hk, t]
theorem ev_rth_bad2 {l r r1 r2 : List UInt8} {f : Ex} (h : EvR (rOr · l) (.ok f r)) (t : takeS [45, 62] r = some r1) (h1 : EvR (rThen · r1) (.bad r2)) : EvR (rThen · l) (.bad r2) := h.step2 h1 fun k hk hk1 => by simp only [rThen, hk, t, hk1]
theorem ev_rth_ok {l r r1 r2 : List UInt8} {f g : Ex} (h : EvR (rOr · l) (.ok f r)) (t : takeS [45, 62] r = some r1) (h1 : EvR (rThen · r1) (.ok g r2)) : EvR (rThen · l) (.ok (.mk 8 e0 [] [f, g]) r2) := h.step2 h1 fun k hk hk1 => by simp only [rThen, hk, t, hk1]

def Rd.rest {α : Type} : Rd α → List UInt8
  | .ok _ r => r
  | .bad r => r
/-- Each text shorter than m has an answer. -/
def TotR {α : Type} (K : Nat → List UInt8 → Option (Rd α)) (m : Nat) : Prop := ∀ l : List UInt8, l.length < m → ∃ x, EvR (K · l) x ∧ x.rest.length ≤ l.length
theorem un_restR (k : Int) (n : ByteArray) (x : Rd Ex) : (x.un k n).rest = x.rest := by cases x <;> rfl
theorem shut_restR (x : Rd Ex) : x.shut.rest.length ≤ x.rest.length := by
  cases x with
  | ok f r =>
    simp only [Rd.shut]
    rcases h : takeS [41] r with _ | r1
    · exact skipB_length r
    · have := takeS_len h; simp [Rd.rest]; omega
  | bad r => exact Nat.le_refl _
theorem totR_word {m : Nat} (ih : TotR rWords m) : TotR rWord (m + 1) := by
  intro l hm; have h1 := skipB_length l; (have h2 : ((skipB l).drop (lettL (skipB l)).length).length ≤ (skipB l).length := by simp)
  rcases hN : anyB (lettL (skipB l)) with _ | _
  · exact ⟨_, ev_word_none hN, by simpa [Rd.rest] using h1⟩
  · rcases hB : isBg (lettL (skipB l)) with _ | _
    · exact ⟨_, ev_word_var hN hB, by simp only [Rd.rest]; omega⟩
    · rcases hT : takeS [40] ((skipB l).drop (lettL (skipB l)).length) with _ | r
      · have h3 := skipB_length ((skipB l).drop (lettL (skipB l)).length)
        (exact ⟨_, ev_word_big hN hB hT, by simp only [Rd.rest]; omega⟩)
      · have h3 := takeS_len hT
        simp only [List.length_cons, List.length_nil] at h3; (obtain ⟨x, hx, hr⟩ := ih r (by omega))
        cases x with
        | ok ws r1 => exact ⟨_, ev_word_ok hN hB hT hx, by simp only [Rd.rest] at hr ⊢; omega⟩
        | bad r1 => exact ⟨_, ev_word_bad hN hB hT hx, by simp only [Rd.rest] at hr ⊢; omega⟩
theorem totR_more {m : Nat} (hW : TotR rWord m) : ∀ (k : Nat) (xs : List Wd) (l : List UInt8), l.length ≤ k → l.length < m → ∃ x, EvR (rMore · xs l) x ∧ x.rest.length ≤ l.length
  | k, xs, l, hk, hm => by
    rcases t : takeS [44] l with _ | r
    · rcases t1 : takeS [41] l with _ | r1
      · exact ⟨_, ev_more_none t t1, skipB_length l⟩
      · have h3 := takeS_len t1
        (exact ⟨_, ev_more_shut t t1, by simp only [Rd.rest]; omega⟩)
    · have hl := takeS_len t
      simp only [List.length_cons, List.length_nil] at hl; (obtain ⟨x, hx, hr⟩ := hW r (by omega))
      cases x with
      | bad r1 => exact ⟨_, ev_more_bad t hx, by simp only [Rd.rest] at hr ⊢; omega⟩
      | ok g r1 =>
        simp only [Rd.rest] at hr
        cases k with
        | zero => omega
        | succ k =>
          (obtain ⟨y, hy, hr2⟩ := totR_more hW k (xs ++ [g]) r1 (by omega) (by omega)); (exact ⟨y, ev_more_ok t hx hy, by omega⟩)
theorem totR_words {m : Nat} (hW : TotR rWord m) : TotR rWords m := by
  intro l hm; obtain ⟨x, hx, hr⟩ := hW l hm
  cases x with
  | bad r1 => exact ⟨_, ev_words_bad hx, hr⟩
  | ok f r1 =>
    simp only [Rd.rest] at hr; (obtain ⟨y, hy, hr2⟩ := totR_more hW _ [f] r1 (Nat.le_refl _) (by omega)); (exact ⟨y, ev_words_ok hx hy, by omega⟩)
theorem totR_words_all : ∀ m, TotR rWord m
  | 0 => fun _ h => absurd h (Nat.not_lt_zero _)
  | m + 1 => totR_word (totR_words (totR_words_all m))
theorem rWord_tot (l : List UInt8) : ∃ x, EvR (rWord · l) x ∧ x.rest.length ≤ l.length := totR_words_all _ l (Nat.lt_succ_self _)
theorem rOf_tot (l : List UInt8) : ∃ x, EvR (rOf · l) x ∧ x.rest.length ≤ l.length := by
  obtain ⟨x, hx, hr⟩ := rWord_tot l
  cases x with
  | bad r => exact ⟨_, ev_of_bad hx, by simpa only [Rd.rest] using hr⟩
  | ok y r =>
    obtain ⟨n, ws⟩ := y; simp only [Rd.rest] at hr
    rcases t : takeS [61] r with _ | r1
    · have h3 := skipB_length r
      rcases hv : isNm n.data.toList with _ | _
      · exact ⟨_, ev_of_pred hx t hv, by simp only [Rd.rest]; omega⟩
      · exact ⟨_, ev_of_var hx t hv, by simp only [Rd.rest]; omega⟩
    · have hl := takeS_len t
      obtain ⟨z, hz, hr2⟩ := rWord_tot r1
      cases z with
      | bad r2 => exact ⟨_, ev_of_same_bad hx t hz, by simp only [Rd.rest] at hr2 ⊢; omega⟩
      | ok y2 r2 => exact ⟨_, ev_of_same hx t hz, by simp only [Rd.rest] at hr2 ⊢; omega⟩
theorem totR_qu {m : Nat} (q : Int) (hN : TotR rNot m) : TotR (rQu · q ·) m := by
  intro l hm; have h1 := skipB_length l
  rcases hv : isNm (lettL (skipB l)) with _ | _
  · exact ⟨_, ev_qu_no hv, by simpa only [Rd.rest] using h1⟩
  · have h2 : ((skipB l).drop (lettL (skipB l)).length).length ≤ (skipB l).length := by simp
    obtain ⟨x, hx, hr⟩ := hN _ (Nat.lt_of_le_of_lt (Nat.le_trans h2 h1) hm); (exact ⟨_, ev_qu_ok hv hx, by rw [un_restR]; omega⟩)
theorem totR_not {m : Nat} (ihN : TotR rNot m) (ihT : TotR rThen m) : TotR rNot (m + 1) := by
  intro l hm
  rcases t1 : takeS [126] l with _ | r
  · rcases t2 : takeS [33] l with _ | r
    · rcases t3 : takeS [63] l with _ | r
      · rcases t4 : takeS [40] l with _ | r
        · rcases t5 : takeS [49] l with _ | r
          · rcases t6 : takeS [48] l with _ | r
            · obtain ⟨x, hx, hr⟩ := rOf_tot l
              exact ⟨_, ev_rn7 t1 t2 t3 t4 t5 t6 hx, hr⟩
            · have := takeS_len t6; exact ⟨_, ev_rn6 t1 t2 t3 t4 t5 t6, by simp only [Rd.rest]; omega⟩
          · have := takeS_len t5; exact ⟨_, ev_rn5 t1 t2 t3 t4 t5, by simp only [Rd.rest]; omega⟩
        · have := takeS_len t4
          simp only [List.length_cons, List.length_nil] at this; (obtain ⟨x, hx, hl⟩ := ihT r (by omega)); (exact ⟨_, ev_rn4 t1 t2 t3 t4 hx, by have := shut_restR x; omega⟩)
      · have := takeS_len t3
        simp only [List.length_cons, List.length_nil] at this; (obtain ⟨x, hx, hl⟩ := totR_qu 10 ihN r (by omega)); (exact ⟨_, ev_rn3 t1 t2 t3 hx, by omega⟩)
    · have := takeS_len t2
      simp only [List.length_cons, List.length_nil] at this; (obtain ⟨x, hx, hl⟩ := totR_qu 9 ihN r (by omega)); (exact ⟨_, ev_rn2 t1 t2 hx, by omega⟩)
  · have := takeS_len t1
    simp only [List.length_cons, List.length_nil] at this; (obtain ⟨x, hx, hl⟩ := ihN r (by omega)); (exact ⟨_, ev_rn1 t1 hx, by rw [un_restR]; omega⟩)
theorem totR_ands {m : Nat} (hN : TotR rNot m) : ∀ (k : Nat) (f : Ex) (l : List UInt8), l.length ≤ k → l.length < m → ∃ x, EvR (rAnds · f l) x ∧ x.rest.length ≤ l.length
  | k, f, l, hk, hm => by
    rcases t : takeS [38] l with _ | r
    · exact ⟨_, ev_rands_no t, skipB_length l⟩
    · have hl := takeS_len t
      simp only [List.length_cons, List.length_nil] at hl; (obtain ⟨x, hx, hr⟩ := hN r (by omega))
      cases x with
      | bad r1 => exact ⟨_, ev_rands_bad t hx, by simp only [Rd.rest] at hr ⊢; omega⟩
      | ok g r1 =>
        simp only [Rd.rest] at hr
        cases k with
        | zero => omega
        | succ k =>
          (obtain ⟨y, hy, hr2⟩ := totR_ands hN k (.mk 6 e0 [] [f, g]) r1 (by omega) (by omega)); (exact ⟨y, ev_rands_ok t hx hy, by omega⟩)
theorem totR_and {m : Nat} (hN : TotR rNot m) : TotR rAnd m := by
  intro l hm; obtain ⟨x, hx, hr⟩ := hN l hm
  cases x with
  | bad r1 => exact ⟨_, ev_rand_bad hx, hr⟩
  | ok f r1 =>
    simp only [Rd.rest] at hr; (obtain ⟨y, hy, hr2⟩ := totR_ands hN _ f r1 (Nat.le_refl _) (by omega)); (exact ⟨y, ev_rand_ok hx hy, by omega⟩)
theorem totR_ors {m : Nat} (hN : TotR rAnd m) : ∀ (k : Nat) (f : Ex) (l : List UInt8), l.length ≤ k → l.length < m → ∃ x, EvR (rOrs · f l) x ∧ x.rest.length ≤ l.length
  | k, f, l, hk, hm => by
    rcases t : takeS [124] l with _ | r
    · exact ⟨_, ev_rors_no t, skipB_length l⟩
    · have hl := takeS_len t
      simp only [List.length_cons, List.length_nil] at hl; (obtain ⟨x, hx, hr⟩ := hN r (by omega))
      cases x with
      | bad r1 => exact ⟨_, ev_rors_bad t hx, by simp only [Rd.rest] at hr ⊢; omega⟩
      | ok g r1 =>
        simp only [Rd.rest] at hr
        cases k with
        | zero => omega
        | succ k =>
          (obtain ⟨y, hy, hr2⟩ := totR_ors hN k (.mk 7 e0 [] [f, g]) r1 (by omega) (by omega)); (exact ⟨y, ev_rors_ok t hx hy, by omega⟩)
theorem totR_or {m : Nat} (hN : TotR rAnd m) : TotR rOr m := by
  intro l hm; obtain ⟨x, hx, hr⟩ := hN l hm
  cases x with
  | bad r1 => exact ⟨_, ev_ror_bad hx, hr⟩
  | ok f r1 =>
    simp only [Rd.rest] at hr; (obtain ⟨y, hy, hr2⟩ := totR_ors hN _ f r1 (Nat.le_refl _) (by omega)); (exact ⟨y, ev_ror_ok hx hy, by omega⟩)
theorem totR_then {m : Nat} (hO : TotR rOr (m + 1)) (ih : TotR rThen m) : TotR rThen (m + 1) := by
  intro l hm; obtain ⟨x, hx, hr⟩ := hO l hm
  cases x with
  | bad r1 => exact ⟨_, ev_rth_bad hx, hr⟩
  | ok f r1 =>
    simp only [Rd.rest] at hr
    rcases t : takeS [45, 62] r1 with _ | r2
    · exact ⟨_, ev_rth_no hx t, by have := skipB_length r1; simp only [Rd.rest]; omega⟩
    · have hl := takeS_len t
      simp only [List.length_cons, List.length_nil] at hl; (obtain ⟨y, hy, hr2⟩ := ih r2 (by omega))
      cases y with
      | bad r3 => exact ⟨_, ev_rth_bad2 hx t hy, by simp only [Rd.rest] at hr2 ⊢; omega⟩
      | ok g r3 => exact ⟨_, ev_rth_ok hx t hy, by simp only [Rd.rest] at hr2 ⊢; omega⟩
theorem totR_all : ∀ m, TotR rNot m ∧ TotR rThen m
  | 0 => ⟨fun _ h => absurd h (Nat.not_lt_zero _), fun _ h => absurd h (Nat.not_lt_zero _)⟩
  | m + 1 => by
    obtain ⟨h1, h2⟩ := totR_all m; have h3 := totR_not h1 h2; exact ⟨h3, totR_then (totR_or (totR_and h3)) h2⟩
theorem rNot_tot (l : List UInt8) : ∃ x, EvR (rNot · l) x ∧ x.rest.length ≤ l.length := (totR_all _).1 l (Nat.lt_succ_self _)
theorem rThen_tot (l : List UInt8) : ∃ x, EvR (rThen · l) x ∧ x.rest.length ≤ l.length := (totR_all _).2 l (Nat.lt_succ_self _)
theorem rAnd_tot (l : List UInt8) : ∃ x, EvR (rAnd · l) x ∧ x.rest.length ≤ l.length := totR_and (totR_all _).1 l (Nat.lt_succ_self _)

theorem xsize_leaf (k : Int) (n : ByteArray) : (Ex.mk k n [] []).size = 1 := by simp [Ex.size, Ex.sizes, Wd.sizes]
theorem xsize_one (k : Int) (n : ByteArray) (f : Ex) : (Ex.mk k n [] [f]).size = f.size + 1 := by simp [Ex.size, Ex.sizes, Wd.sizes]
theorem xsize_two (k : Int) (n : ByteArray) (f g : Ex) : (Ex.mk k n [] [f, g]).size = f.size + g.size + 1 := by simp [Ex.size, Ex.sizes, Wd.sizes]
end Go.Proofs.YtheiikkeelbjnajGreat
