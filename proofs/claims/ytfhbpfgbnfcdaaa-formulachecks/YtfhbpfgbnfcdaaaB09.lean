/- Texts of one proof, one behind the other: Walk7, Walk8, Walk9. -/
import Derived.Test.YtfhbpfgbnfcdaaaB07
import Derived.Defers
import Derived.Recover
import Derived.RegionTactic
/- Walks: a fault that is caught. -/
namespace Go.Proofs.Ytfhbpfgbnfcdaaa
open Go.RowKit

theorem set2 {w : World} {b : Nat} {x0 x1 : Value} {T : TypeId} (h : w.heap[b]? = some (.cells #[x0, x1] T (0, 0))) (y0 y1 : Value) :
    ((w.setCell ⟨b, 0, none⟩ y0).setCell ⟨b, 1, none⟩ y1).heap[b]? = some (.cells #[y0, y1] T (0, 0)) := by
  simp [World.setCell, Array.getElem?_modify, h]

theorem assert_stop (v : Value) (w : World) : (Instr.typeAssert (.iface 111 v) 20 111 true).run Try.prog w = .ok (.tuple #[v, .bool true]) w := by kernel_rfl

set_option maxRecDepth 100000 in
theorem catch_stop (p : Nat) (x y code at_ : Int) (w : World) (hb : w.heap[p]? = some (.cells #[.int .i64 x, .int .i64 y] 29 (0, 0))) :
    CallsD Try.prog 77 #[.pointer (some ⟨p, 0, none⟩)] (.panicking [{ v := .iface 111 (.agg #[.int .i64 code, .int .i64 at_]), recovered := false }]) w fun e u' w' =>
      e = .returned (.tuple #[]) ∧ u' = .panicking [{ v := .iface 111 (.agg #[.int .i64 code, .int .i64 at_]), recovered := true }] ∧ w'.heap[p]? = some (.cells #[.int .i64 code, .int .i64 at_] 29 (0, 0)) ∧ Kept (· ≠ p) w w' := by
  obtain ⟨g1, g2, g3, g4⟩ := blk2 hb; have hlt := lt_of_block hb; (refine callsD_of_wpS Try.func77 rfl fun c₀ cs hu => ?_); apply wpS_seq; apply wpS_region; simp [wpOpsS, go_sem, recoverD, hu, Try.ntmps77, Exit.thenS]; apply wpS_of_wp; have HB : Hid (w.heap[p]? = some (.cells #[.int .i64 x, .int .i64 y] 29 (0, 0))) := hb; clear hb; clear hu; (generalize hQ : (fun (e : Exit) (a' : Act) (w' : World) => _) = Q); have HQ : Hid (_ = Q) := hQ; clear hQ
  change Code.wp _ _ _ { tmps := #[.pointer (some ⟨p, 0, none⟩), undef, undef, undef, .iface 111 (.agg #[.int .i64 code, .int .i64 at_]), undef, undef, undef, undef, undef, undef, undef], defers := [] } _
  have hta := assert_stop; go_wp2; rw [← HQ.out]; (refine ⟨rfl, _, rfl, .tuple #[], by simp [results, Try.results77, go_sem], rfl, rfl, ?_, ?_⟩)
  · rw [Below.heap_alloc _ _ _ (by simpa [World.setCell] using hlt)]
    exact set2 HB.out _ _
  · exact (((Kept.refl _ _).setCell (by simp) _).setCell (by simp) _).alloc _

set_option maxRecDepth 100000 in
theorem catch_idle (p : Addr) (w : World) :
    CallsD Try.prog 77 #[.pointer (some p)] .returning w fun e u' w' => e = .returned (.tuple #[]) ∧ u' = .returning ∧ w' = w := by
  (refine callsD_of_wpS Try.func77 rfl fun c₀ cs hu => ?_); apply wpS_seq; apply wpS_region; simp [wpOpsS, go_sem, recoverD, hu, Try.ntmps77, Exit.thenS]; apply wpS_of_wp; have HU : Hid (c₀.mode = .returning) := hu; clear hu; (generalize hQ : (fun (e : Exit) (a' : Act) (w' : World) => _) = Q); have HQ : Hid (_ = Q) := hQ; clear hQ
  change Code.wp _ _ _ { tmps := #[.pointer (some p), undef, undef, undef, .nilIface, undef, undef, undef, undef, undef, undef, undef], defers := [] } _
  go_wp2; rw [← HQ.out]; (refine ⟨rfl, .returning, ?_, .tuple #[], by simp [results, Try.results77, go_sem], rfl, rfl, rfl⟩); have := HU.out
  cases c₀
  simp_all

set_option maxRecDepth 100000 in
set_option maxHeartbeats 1000000 in
theorem caught_ok (g : Nat) (cap : Array Value) (w : World) (R : World → Prop) (hcf : ∀ w, (callFunc g cap).run Try.prog w = .ok (.enter g cap) w)
    (hw : Calls Try.prog g cap (w.alloc (.cells #[.int .i64 0, .int .i64 0] 29 (0, 0))) fun e w' => e = .returned (.tuple #[]) ∧ w'.heap[w.heap.size]? = some (.cells #[.int .i64 0, .int .i64 0] 29 (0, 0)) ∧ R w') :
    Calls Try.prog 41 #[.func (.func g) #[] cap] w fun e w' => e = .returned (.agg #[.int .i64 0, .int .i64 0]) ∧ ∃ w1, R w1 ∧ Kept (· ≠ w.heap.size) w1 w' := by
  (have hmf : ∀ (fn : Fn) (first cap : Array Value) (w : World), (Instr.makeFunc fn first cap).run Try.prog w = .ok (.func fn first cap) w := fun _ _ _ _ => rfl); have HW : Hid (Calls Try.prog g cap _ _) := hw; clear hw
  go_enter_defers Try.func41, Try.ntmps41
  go_wp2_with fail; refine HW.out.mono ?_; rintro e w1 ⟨rfl, q1, hR⟩; obtain ⟨g1, g2, g3, g4⟩ := blk2 q1; go_wp2_with fail; (refine leaves_cons (f := 77) (args := #[.pointer (some ⟨w.heap.size, 0, none⟩)]) (by simp) (by simp [go_sem]) ?_); refine (catch_idle ⟨w.heap.size, 0, none⟩ _).mono ?_; rintro e u' w'' ⟨rfl, rfl, rfl⟩; simp only [Leaves, settle]; (exact ⟨.agg #[.int .i64 0, .int .i64 0], by simp [results, Try.results41, go_sem, g1, g2], rfl, w1, hR, ((Kept.refl _ _).setCell (by simp) _).setCell (by simp) _⟩)

set_option maxRecDepth 100000 in
set_option maxHeartbeats 1000000 in
theorem caught_bad (g : Nat) (cap : Array Value) (w : World) (R : World → Prop) (code at_ : Int) (hcf : ∀ w, (callFunc g cap).run Try.prog w = .ok (.enter g cap) w)
    (hw : Calls Try.prog g cap (w.alloc (.cells #[.int .i64 0, .int .i64 0] 29 (0, 0))) fun e w' => e = .panicked (stopC code at_) ∧ w'.heap[w.heap.size]? = some (.cells #[.int .i64 0, .int .i64 0] 29 (0, 0)) ∧ R w') :
    Calls Try.prog 41 #[.func (.func g) #[] cap] w fun e w' => e = .returned (.agg #[.int .i64 code, .int .i64 at_]) ∧ ∃ w1, R w1 ∧ Kept (· ≠ w.heap.size) w1 w' := by
  (have hmf : ∀ (fn : Fn) (first cap : Array Value) (w : World), (Instr.makeFunc fn first cap).run Try.prog w = .ok (.func fn first cap) w := fun _ _ _ _ => rfl); have HW : Hid (Calls Try.prog g cap _ _) := hw; clear hw
  go_enter_defers Try.func41, Try.ntmps41
  go_wp2_with fail; refine HW.out.mono ?_; rintro e w1 ⟨rfl, q1, hR⟩; (refine leaves_cons (f := 77) (args := #[.pointer (some ⟨w.heap.size, 0, none⟩)]) (by simp) (by simp [go_sem]) ?_); refine (catch_stop w.heap.size 0 0 code at_ _ q1).mono ?_; rintro e u' w'' ⟨rfl, rfl, q2, hk⟩; obtain ⟨g1, g2, g3, g4⟩ := blk2 q2; simp only [settle]; (exact ⟨.agg #[.int .i64 code, .int .i64 at_], by simp [results, Try.results41, go_sem, g1, g2], rfl, w1, hR, hk⟩)
end Go.Proofs.Ytfhbpfgbnfcdaaa
/- Walks: a whole reading; Parse. -/
namespace Go.Proofs.Ytfhbpfgbnfcdaaa
open Go.RowKit

/-- What Parse answers: a formula, or a fault. -/
inductive Out where
  | ok (f : Fm)
  | fault (code : Int) (at_ : Nat)

/-- Of a text that is not too long: what its reading comes to. -/
def outOf (n : Nat) : Res → Out
  | .bad r => .fault 1 (n - r.length)
  | .ok f r => if skipB r = [] then (if 200 < f.size then .fault 2 0 else .ok f) else .fault 1 (n - (skipB r).length)

theorem At.pos {t : ByteArray} {a : Nat} {l : List UInt8} (h : At t a l) : a = t.size - l.length := by have := h.len; omega

theorem reads_then (t : ByteArray) (ht : t.size ≤ 20000) : Reads mThen 83 t (t.size + 1) := (reads_all t ht _).2

/-- What a call leaves that was handed a new block of its own. -/
theorem Kept.past {w w' : World} {o : Obj} (h : Kept (· ≠ w.heap.size) (w.alloc o) w') : Kept (fun _ => True) w w' :=
  ⟨h.os, h.tape, h.output, by have := h.size; simp at this; omega, fun k hk _ => (h.block k (by simp; omega) (by omega)).trans (Below.heap_alloc _ _ _ hk)⟩

/-- What a whole reading leaves. -/
def WPost (w : World) : Out → Ending → World → Prop
  | .ok f, e, w' => ∃ v, e = .returned v ∧ Rep w' (w.heap.size ≤ ·) f v
  | .fault code at_, e, _ => e = .panicked (stopC code at_)

set_option maxHeartbeats 2000000 in
theorem whole_any (br : Nat) (t : ByteArray) (ht : t.size ≤ 20000) (w : World) (h : RS br w t 0 0) (x : Res) (hx : Ev (mThen · t.data.toList) x) (o : Out) (ho : outOf t.size x = o) :
    Calls Try.prog 49 #[.pointer (some ⟨br, 0, none⟩)] w fun e w' => Kept (· ≠ br) w w' ∧ WPost w o e w' := by
  (have hne : w.heap.size ≠ br := by have := h.lt; omega); have hl : t.data.toList.length = t.size := Array.length_toList; (have ha : At t 0 t.data.toList := ⟨Nat.zero_le _, by simp⟩); have hR := reads_then t ht
  cases x with
  | bad r =>
    subst ho
    go_enter Try.func49, Try.ntmps49
    go_wp2_with (first
      | (go_at_call 83
         (refine (hR.bad br 0 0 _ _ ha (h.alloc _) (by omega) (by omega) hx).mono ?_)
         rintro e w1 ⟨hk1, a1, rfl, ha1⟩)
      | fail)
    exact ⟨rfl, ((Kept.refl _ _).alloc _).trans hk1, by show _ = _; rw [← ha1.pos]⟩
  | ok f r =>
    obtain ⟨k, nm, ks⟩ := f; by_cases h1 : skipB r = []
    · have hsz : (skipB r).length = 0 := by rw [h1]; rfl
      by_cases h2 : 200 < (Fm.mk k nm ks).size
      · have : o = .fault 2 0 := by rw [← ho]; simp only [outOf, h1, h2, if_true]
        subst this; clear ho h1; (have h3 : (200 : Int) < ((Fm.mk k nm ks).size : Int) := by omega)
        go_enter Try.func49, Try.ntmps49
        go_wp2_with (first
          | (go_at_call 83
             (refine (hR.ok br 0 0 _ _ ha (h.alloc _) (by omega) (by omega) hx).mono ?_); rintro e w1 ⟨hk1, v, a1, rfl, hrep, ha1, hr1, hb1⟩; obtain ⟨sl, cap, rfl, hx1, hx2, hx3, hx4⟩ := Rep.def.1 hrep
             clear hx4)
          | (go_at_call 84
             refine (skip_any br t ht _ _ a1 r ha1 (hr1.alloc _)).mono ?_
             rintro e w2 ⟨rfl, ⟨a2, ha2, hr2⟩, hk2⟩)
          | fail)
        rw [Nat.zero_add] at hr2; have f0 := hr2.c0; have f1 := hr2.c1; have f2 := hr2.c2; have hlen := ha2.len; (have hn1 : w1.heap.size ≠ br := by have := hr1.lt; omega); have z0 := hk1.size; simp at z0
        have q2 : w2.heap[w.heap.size]? = some (.cells #[.int .i64 0, .string ⟨#[]⟩, .slice none 0 0] 24 (0, 0)) := by
          (rw [hk2.block _ (by simp; omega) hne, Below.heap_alloc _ _ _ (by omega)]); (exact (hk1.block _ (by simp) hne).trans (blk_new _ _))
        (have q3 : w2.heap[w1.heap.size]? = some (.cells #[.int .i64 k, .string nm, .slice sl ks.length cap] 24 (0, 0)) := (hk2.block _ (by simp) hn1).trans (blk_new _ _)); obtain ⟨k1, k2, k3, k4, k5, k6⟩ := blk3 q2; obtain ⟨g1, g2, g3, g4, g5, g6⟩ := blk3 q3; have K2 : Kept (· ≠ br) w1 w2 := ((Kept.refl _ _).alloc _).trans hk2; have K : Kept (· ≠ br) w w2 := (((Kept.refl _ _).alloc _).trans hk1).trans K2; (have hl1 : (t.size : Int) ≤ 20000 := by omega); have HA := ha2.pos; have HA' : Hid (a2 = t.size - (skipB r).length) := HA; (have hs1 : ((Fm.mk k nm ks).size : Int) ≤ 20000 := by omega); clear ha2 HA; rw [hsz] at hlen; clear hsz; (have hd : decide ((a2 : Int) < (t.size : Int)) = false := by simp; omega); generalize (Fm.mk k nm ks).size = sz at *
        go_quiet (fail)
        go_wp2_with (first | (go_at_call 78; refine (stop_any _ _ _).mono ?_; rintro e w4 ⟨rfl, rfl⟩) | fail); exact ⟨rfl, K.drewN _, rfl⟩
      · have : o = .ok (.mk k nm ks) := by rw [← ho]; simp only [outOf, h1, h2, if_true, if_false]
        subst this; clear ho h1; (have h3 : ((Fm.mk k nm ks).size : Int) ≤ 200 := by omega)
        go_enter Try.func49, Try.ntmps49
        go_wp2_with (first
          | (go_at_call 83
             (refine (hR.ok br 0 0 _ _ ha (h.alloc _) (by omega) (by omega) hx).mono ?_); rintro e w1 ⟨hk1, v, a1, rfl, hrep, ha1, hr1, hb1⟩; obtain ⟨sl, cap, rfl, hx1, hx2, hx3, hx4⟩ := Rep.def.1 hrep
             clear hx4)
          | (go_at_call 84
             refine (skip_any br t ht _ _ a1 r ha1 (hr1.alloc _)).mono ?_
             rintro e w2 ⟨rfl, ⟨a2, ha2, hr2⟩, hk2⟩)
          | fail)
        rw [Nat.zero_add] at hr2; have f0 := hr2.c0; have f1 := hr2.c1; have f2 := hr2.c2; have hlen := ha2.len; (have hn1 : w1.heap.size ≠ br := by have := hr1.lt; omega); have z0 := hk1.size; simp at z0
        have q2 : w2.heap[w.heap.size]? = some (.cells #[.int .i64 0, .string ⟨#[]⟩, .slice none 0 0] 24 (0, 0)) := by
          (rw [hk2.block _ (by simp; omega) hne, Below.heap_alloc _ _ _ (by omega)]); (exact (hk1.block _ (by simp) hne).trans (blk_new _ _))
        (have q3 : w2.heap[w1.heap.size]? = some (.cells #[.int .i64 k, .string nm, .slice sl ks.length cap] 24 (0, 0)) := (hk2.block _ (by simp) hn1).trans (blk_new _ _)); obtain ⟨k1, k2, k3, k4, k5, k6⟩ := blk3 q2; obtain ⟨g1, g2, g3, g4, g5, g6⟩ := blk3 q3; have K2 : Kept (· ≠ br) w1 w2 := ((Kept.refl _ _).alloc _).trans hk2; have K : Kept (· ≠ br) w w2 := (((Kept.refl _ _).alloc _).trans hk1).trans K2; (have hl1 : (t.size : Int) ≤ 20000 := by omega); have HA := ha2.pos; have HA' : Hid (a2 = t.size - (skipB r).length) := HA; (have hs1 : ((Fm.mk k nm ks).size : Int) ≤ 20000 := by omega); clear ha2 HA; rw [hsz] at hlen; clear hsz; (have hd : decide ((a2 : Int) < (t.size : Int)) = false := by simp; omega); generalize (Fm.mk k nm ks).size = sz at *
        go_quiet (fail)
        go_wp2; (refine bodyPost_ret (v := .agg #[.int .i64 k, .string nm, .slice sl ks.length cap]) (by simp [results, Try.results49, go_sem, k1, k2, k3]) rfl ⟨?_, _, rfl, ?_⟩)
        · exact (((K.drewN _).setCell (fun h => by simp at h) _).setCell (fun h => by simp at h) _).setCell (fun h => by simp at h) _
        · refine hrep.move fun b hb1 hb2 => ⟨?_, by simp at hb2; omega⟩
          simp at hb2; have := h.lt; (rw [Below.heap_setCell _ _ _ _ (by simp; omega), Below.heap_setCell _ _ _ _ (by simp; omega), Below.heap_setCell _ _ _ _ (by simp; omega)]); (exact K2.block b hb1 (by omega))
    · have : o = .fault 1 (t.size - (skipB r).length) := by rw [← ho]; simp only [outOf, h1, if_false]
      subst this; have h2 : 0 < (skipB r).length := List.length_pos_iff.2 h1; clear ho h1
      go_enter Try.func49, Try.ntmps49
      go_wp2_with (first
        | (go_at_call 83
           (refine (hR.ok br 0 0 _ _ ha (h.alloc _) (by omega) (by omega) hx).mono ?_); rintro e w1 ⟨hk1, v, a1, rfl, hrep, ha1, hr1, hb1⟩; obtain ⟨sl, cap, rfl, hx1, hx2, hx3, hx4⟩ := Rep.def.1 hrep
           clear hx4)
        | (go_at_call 84
           refine (skip_any br t ht _ _ a1 r ha1 (hr1.alloc _)).mono ?_
           rintro e w2 ⟨rfl, ⟨a2, ha2, hr2⟩, hk2⟩)
        | fail)
      rw [Nat.zero_add] at hr2; have f0 := hr2.c0; have f1 := hr2.c1; have f2 := hr2.c2; have hlen := ha2.len; (have hn1 : w1.heap.size ≠ br := by have := hr1.lt; omega); have z0 := hk1.size; simp at z0
      have q2 : w2.heap[w.heap.size]? = some (.cells #[.int .i64 0, .string ⟨#[]⟩, .slice none 0 0] 24 (0, 0)) := by
        (rw [hk2.block _ (by simp; omega) hne, Below.heap_alloc _ _ _ (by omega)]); (exact (hk1.block _ (by simp) hne).trans (blk_new _ _))
      (have q3 : w2.heap[w1.heap.size]? = some (.cells #[.int .i64 k, .string nm, .slice sl ks.length cap] 24 (0, 0)) := (hk2.block _ (by simp) hn1).trans (blk_new _ _)); obtain ⟨k1, k2, k3, k4, k5, k6⟩ := blk3 q2; obtain ⟨g1, g2, g3, g4, g5, g6⟩ := blk3 q3; have K2 : Kept (· ≠ br) w1 w2 := ((Kept.refl _ _).alloc _).trans hk2; have K : Kept (· ≠ br) w w2 := (((Kept.refl _ _).alloc _).trans hk1).trans K2; (have hl1 : (t.size : Int) ≤ 20000 := by omega); have HA := ha2.pos; have HA' : Hid (a2 = t.size - (skipB r).length) := HA; (have hs1 : ((Fm.mk k nm ks).size : Int) ≤ 20000 := by omega); clear ha2 HA; (have hd : (a2 : Int) < (t.size : Int) := by omega)
      go_quiet (fail)
      go_wp2_with (first | (go_at_call 78; refine (stop_any _ _ _).mono ?_; rintro e w4 ⟨rfl, rfl⟩) | fail); (exact ⟨rfl, K.drewN _, by show _ = _; rw [← HA'.out]⟩)

set_option maxHeartbeats 1000000 in
theorem parse1_ok (bt bf : Nat) (t : ByteArray) (ht : t.size ≤ 20000) (w : World) (q0 : w.heap[bt]? = some (.cells #[.string t] 9 (0, 0))) (q1 : w.heap[bf]? = some (.cells #[.int .i64 0, .string ⟨#[]⟩, .slice none 0 0] 24 (0, 0))) (x : Res) (hx : Ev (mThen · t.data.toList) x) (f : Fm) (ho : outOf t.size x = .ok f) :
    Calls Try.prog 48 #[.pointer (some ⟨bt, 0, none⟩), .pointer (some ⟨bf, 0, none⟩)] w fun e w' => e = .returned (.tuple #[]) ∧ Kept (· ≠ bf) w w' ∧ ∃ k nm ks sl cap, f = .mk k nm ks ∧ w'.heap[bf]? = some (.cells #[.int .i64 k, .string nm, .slice sl ks.length cap] 24 (0, 0)) ∧ Rep w' (w.heap.size ≤ ·) f (.agg #[.int .i64 k, .string nm, .slice sl ks.length cap]) := by
  have f0 := blk_cell q0 0; simp at f0; have z0 := lt_of_block q0; have z1 := lt_of_block q1; (have d1 : bf ≠ w.heap.size := by omega)
  go_enter Try.func48, Try.ntmps48
  go_wp2_with (first
    | (go_at_call 49
       refine (whole_any w.heap.size t ht _ (blk_new _ _) x hx _ ho).mono ?_; rintro e w1 ⟨hk1, v, rfl, hrep⟩; obtain ⟨k, nm, ks⟩ := f; obtain ⟨sl, cap, rfl, hx1, hx2, hx3, hx4⟩ := Rep.def.1 hrep; clear hx4
       have q2 : w1.heap[bf]? = some (.cells #[.int .i64 0, .string ⟨#[]⟩, .slice none 0 0] 24 (0, 0)) := by
         (rw [hk1.block _ (by simp; omega) d1, Below.heap_alloc _ _ _ z1]; exact q1)
       obtain ⟨g1, g2, g3, g4, g5, g6⟩ := blk3 q2)
    | fail)
  go_end0
  (have K : Kept (· ≠ bf) w w1 := hk1.past.mono (fun _ _ _ => trivial)); refine ⟨rfl, ?_, k, nm, ks, sl, cap, rfl, set3 q2 _ _ _, ?_⟩
  · exact ((K.setCell (by simp) _).setCell (by simp) _).setCell (by simp) _
  · refine hrep.move fun b hb1 hb2 => ⟨?_, by simp at hb2; omega⟩
    simp at hb2; (rw [Below.heap_setCell _ _ _ _ (by simp; omega), Below.heap_setCell _ _ _ _ (by simp; omega), Below.heap_setCell _ _ _ _ (by simp; omega)])

end Go.Proofs.Ytfhbpfgbnfcdaaa
/- Walks: Parse. -/
namespace Go.Proofs.Ytfhbpfgbnfcdaaa
open Go.RowKit

theorem parse1_in (cap : Array Value) (w : World) : (callFunc 48 cap).run Try.prog w = .ok (.enter 48 cap) w := by
  simp [go_sem]

theorem heap_drew (w : World) : w.drew.heap = w.heap := rfl

/-- The blocks that Parse makes first. -/
theorem three {w : World} {o0 o1 o2 o3 : Obj} : ((((w.alloc o0).alloc o1).alloc o2).alloc o3).heap[w.heap.size]? = some o0 ∧ ((((w.alloc o0).alloc o1).alloc o2).alloc o3).heap[w.heap.size + 1]? = some o1 ∧ ((((w.alloc o0).alloc o1).alloc o2).alloc o3).heap[w.heap.size + 2]? = some o2 ∧ ((((w.alloc o0).alloc o1).alloc o2).alloc o3).heap[w.heap.size + 3]? = some o3 := by
  (have e1 : (w.alloc o0).heap.size = w.heap.size + 1 := by simp); (have e2 : ((w.alloc o0).alloc o1).heap.size = w.heap.size + 2 := by simp); (have e3 : (((w.alloc o0).alloc o1).alloc o2).heap.size = w.heap.size + 3 := by simp); refine ⟨?_, ?_, ?_, ?_⟩
  · rw [Below.heap_alloc _ _ _ (by omega), Below.heap_alloc _ _ _ (by omega), Below.heap_alloc _ _ _ (by omega)]; exact blk_new _ _
  · rw [Below.heap_alloc _ _ _ (by omega), Below.heap_alloc _ _ _ (by omega), ← e1]; exact blk_new _ _
  · rw [Below.heap_alloc _ _ _ (by omega), ← e2]; exact blk_new _ _
  · rw [← e3]; exact blk_new _ _

set_option maxHeartbeats 1000000 in
theorem parse_ok (t : ByteArray) (ht : t.size ≤ 20000) (w : World) (x : Res) (hx : Ev (mThen · t.data.toList) x) (f : Fm) (ho : outOf t.size x = .ok f) :
    Calls Try.prog 17 #[.string t] w fun e w' => ∃ v, e = .returned (.tuple #[v, .agg #[.int .i64 0, .int .i64 0]]) ∧ Rep w' (w.heap.size ≤ ·) f v ∧ Below w.heap.size w w' := by
  (have h3 : (t.size : Int) ≤ 20000 := by omega); (have hmf : ∀ (fn : Fn) (first cap : Array Value) (w : World), (Instr.makeFunc fn first cap).run Try.prog w = .ok (.func fn first cap) w := fun _ _ _ _ => rfl)
  go_enter Try.func17, Try.ntmps17
  go_wp2_with (first
    | (go_at_call 41
       (refine (caught_ok 48 _ _ (fun w1 => ∃ k nm ks sl cap, f = .mk k nm ks ∧ w1.heap[w.heap.size + 1]? = some (.cells #[.int .i64 k, .string nm, .slice sl ks.length cap] 24 (0, 0)) ∧ w1.heap[w.heap.size + 1 + 1]? = some (.cells #[.int .i64 0, .int .i64 0] 29 (0, 0)) ∧ Rep w1 (w.heap.size + 4 ≤ ·) f (.agg #[.int .i64 k, .string nm, .slice sl ks.length cap]) ∧ Kept (fun k => k < w.heap.size) w w1) (parse1_in _) ?_).mono ?_)
       · refine (parse1_ok w.heap.size (w.heap.size + 1) t ht _ three.1 three.2.1 x hx f ho).mono ?_
         rintro e w1 ⟨rfl, hk, k, nm, ks, sl, cap, rfl, q1, hrep⟩; (refine ⟨rfl, (hk.block _ (by simp) (by simp; omega)).trans (blk_new _ _), k, nm, ks, sl, cap, rfl, q1, ?_, ?_, ?_⟩)
         · exact (hk.block _ (by simp) (by simp)).trans three.2.2.1
         · exact hrep.move fun b _ hb2 => ⟨rfl, by simp at hb2; omega⟩
         · exact ((((((Kept.refl _ w).alloc _).alloc _).alloc _).alloc _)).trans (hk.mono (fun k _ h => by omega))
       rintro e w2 ⟨rfl, w1, ⟨k, nm, ks, sl, cap, rfl, q1, q2, hrep, hk⟩, hk2⟩; have z1 := lt_of_block q1; have z2 := lt_of_block q2; (have q3 := (hk2.block _ z1 (by simp)).trans q1); (have q4 := (hk2.block _ z2 (by simp)).trans q2); obtain ⟨g1, g2, g3, g4, g5, g6⟩ := blk3 q3
       obtain ⟨k1, k2, k3, k4⟩ := blk2 q4)
    | fail)
  go_region
  all_goals go_wp2
  have hsz := hk.size; have hsz2 := hk2.size; have y2 := set2 q4 (.int .i64 0) (.int .i64 0); have y1 := q3; (rw [← Below.heap_setCell _ ⟨w.heap.size + 1 + 1, 0, none⟩ (.int .i64 0) _ (by simp), ← Below.heap_setCell _ ⟨w.heap.size + 1 + 1, 1, none⟩ (.int .i64 0) _ (by simp)] at y1); have x1 := set3 y1 (.int .i64 k) (.string nm) (.slice sl ks.length cap); have x2 := y2; (rw [← Below.heap_setCell _ ⟨w.heap.size + 1, 0, none⟩ (.int .i64 k) _ (by simp), ← Below.heap_setCell _ ⟨w.heap.size + 1, 1, none⟩ (.string nm) _ (by simp), ← Below.heap_setCell _ ⟨w.heap.size + 1, 2, none⟩ (.slice sl ks.length cap) _ (by simp)] at x2); have f2 := set2 x2 (.int .i64 0) (.int .i64 0); have f1 := x1; (rw [← Below.heap_setCell _ ⟨w.heap.size + 1 + 1, 0, none⟩ (.int .i64 0) _ (by simp), ← Below.heap_setCell _ ⟨w.heap.size + 1 + 1, 1, none⟩ (.int .i64 0) _ (by simp)] at f1); (have b1 : Below w.heap.size w w2 := (hk.trans (hk2.mono (fun k _ h => by simp; omega))).below (Nat.le_refl _) (fun _ h => h)); (have b2 := (((((((b1.setCell (p := ⟨w.heap.size + 1 + 1, 0, none⟩) (by simp; omega) (.int .i64 0)).setCell (p := ⟨w.heap.size + 1 + 1, 1, none⟩) (by simp; omega) (.int .i64 0)).setCell (p := ⟨w.heap.size + 1, 0, none⟩) (by simp) (.int .i64 k)).setCell (p := ⟨w.heap.size + 1, 1, none⟩) (by simp) (.string nm)).setCell (p := ⟨w.heap.size + 1, 2, none⟩) (by simp) (.slice sl ks.length cap)).setCell (p := ⟨w.heap.size + 1 + 1, 0, none⟩) (by simp; omega) (.int .i64 0)).setCell (p := ⟨w.heap.size + 1 + 1, 1, none⟩) (by simp; omega) (.int .i64 0)).drew)
  have r1 : Rep (((((((w2.setCell ⟨w.heap.size + 1 + 1, 0, none⟩ (.int .i64 0)).setCell ⟨w.heap.size + 1 + 1, 1, none⟩ (.int .i64 0)).setCell ⟨w.heap.size + 1, 0, none⟩ (.int .i64 k)).setCell ⟨w.heap.size + 1, 1, none⟩ (.string nm)).setCell ⟨w.heap.size + 1, 2, none⟩ (.slice sl ks.length cap)).setCell ⟨w.heap.size + 1 + 1, 0, none⟩ (.int .i64 0)).setCell ⟨w.heap.size + 1 + 1, 1, none⟩ (.int .i64 0)).drew (w.heap.size ≤ ·) (.mk k nm ks) (.agg #[.int .i64 k, .string nm, .slice sl ks.length cap]) := by
    (refine hrep.move fun b hb1 hb2 => ⟨?_, by omega⟩); (rw [heap_drew, Below.heap_setCell _ _ _ _ (by simp; omega), Below.heap_setCell _ _ _ _ (by simp; omega), Below.heap_setCell _ _ _ _ (by simp; omega), Below.heap_setCell _ _ _ _ (by simp; omega), Below.heap_setCell _ _ _ _ (by simp; omega), Below.heap_setCell _ _ _ _ (by simp; omega), Below.heap_setCell _ _ _ _ (by simp; omega)]); (exact hk2.block b hb1 (by simp; omega))
  generalize World.setCell _ _ _ = F at f1 f2 b2 r1 ⊢; clear g1 g2 g3 g4 g5 g6 k1 k2 k3 k4; obtain ⟨g1, g2, g3, -⟩ := blk3 f1; obtain ⟨k1, k2, -⟩ := blk2 f2; (exact bodyPost_ret (v := .tuple #[.agg #[.int .i64 k, .string nm, .slice sl ks.length cap], .agg #[.int .i64 0, .int .i64 0]]) (by simp [results, Try.results17, go_sem, g1, g2, g3, k1, k2]) rfl ⟨_, rfl, r1, b2⟩)

end Go.Proofs.Ytfhbpfgbnfcdaaa
