/- Texts of one proof, one behind the other: Inside1. -/
import Derived.Test.YtfhbpfgbnfcdaaaB21
import Derived.Test.YtfhbpfgbnfcdaaaB22
import Derived.Test.YtfhbpfgbnfcdaaaB16
/- Walks: a part as the yardstick writes it. -/
namespace Go.Proofs.Ytfhbpfgbnfcdaaa
open Go.RowKit

theorem below_drewN {B : Nat} {w w' : World} (n : Nat) (h : Below B w w') : Below B w (w'.drewN n) := ⟨h.os, h.tape, h.output, h.size, h.block⟩

set_option maxHeartbeats 2000000 in
theorem inside_fault (k : Int) (n : ByteArray) (ks : List Fm) (j : Nat) (kid : Fm) (hj : ks[j]? = some kid) (v : Value) (ahead behind s : ByteArray) (w : World) (hrep : Rep w (fun _ => True) (.mk k n ks) v)
    (hw : ∀ v w, Rep w (fun _ => True) kid v → Calls Try.prog 16 #[v] w fun e w' => e = .returned (.string s) ∧ Below w.heap.size w w')
    (hsz : ahead.size + s.size + behind.size ≤ 20000) (c a : Int) (hc : c ≠ 0)
    (hr : ∀ w, Calls Try.prog 18 #[.string (ahead ++ s ++ behind)] w fun e w' => e = .returned (.tuple #[.agg #[.int .i64 0, .string ⟨#[]⟩, .slice none 0 0], .agg #[.int .i64 c, .int .i64 a]]) ∧ Below w.heap.size w w') :
    Calls Try.prog 47 #[v, .int .i64 (j : Nat), .string ahead, .string behind] w fun e w' => e = .returned (.string (⟨#[40]⟩ ++ s ++ ⟨#[41]⟩)) ∧ Below w.heap.size w w' := by
  obtain ⟨sl, cap, rfl, hx1, hx2, hx3, hx4⟩ := Rep.def.1 hrep
  have hlt : j < ks.length := by
    rcases Nat.lt_or_ge j ks.length with h | h
    · exact h
    · rw [List.getElem?_eq_none h] at hj; cases hj
  (obtain ⟨b, off, rfl, -, hrs⟩ := hx4 (fun e => by rw [e] at hlt; simp at hlt)); obtain ⟨k2, n2, ks2⟩ := kid; obtain ⟨sl2, cap2, g0, g1, g2, hrep2⟩ := hrs.at j k2 n2 ks2 hj; have HW : Hid (∀ v w, _ → Calls Try.prog 16 #[v] w _) := hw; have HR : Hid (∀ w, Calls Try.prog 18 _ w _) := hr; (have hltI : (j : Int) < (ks.length : Int) := by omega); (have hlc : (j : Int) < (cap : Int) := by omega); have zb := lt_of_cell g0; (have hcJ : (c == 0) = false := by simpa using hc); (have hjI : (j : Int) ≤ 9223372036854775807 := by unfold maxLen at hx3; omega); clear hw hr hrs hrep hj
  go_enter Try.func47, Try.ntmps47
  go_wp2_with (first
    | (go_at_call 16
       refine (HW.out _ _ (hrep2.more _)).mono ?_; rintro e w1 ⟨rfl, hb1⟩; have B1 := below_join (below_more (Below.refl _ w) _) hb1
       have q0 := below_keep hb1 (blk_new w _))
    | (go_at_call 18
       refine (HR.out _).mono ?_; rintro e w2 ⟨rfl, hb2⟩; have B2 := below_join B1 hb2; have q1 := below_keep hb2 q0; obtain ⟨e0, e1, e2, -⟩ := blk3 q1
       have z1 := lt_of_block q1)
    | fail)
  have p0 := alloc_keep (alloc_keep q1 (.cells #[.int .i64 0, .string ⟨#[]⟩, .slice none 0 0] 24 (0, 0))) (.cells #[.int .i64 c, .int .i64 a] 29 (0, 0)); have p1 := alloc_keep (blk_new w2 (.cells #[.int .i64 0, .string ⟨#[]⟩, .slice none 0 0] 24 (0, 0))) (.cells #[.int .i64 c, .int .i64 a] 29 (0, 0)); have p2 := blk_new (w2.alloc (.cells #[.int .i64 0, .string ⟨#[]⟩, .slice none 0 0] 24 (0, 0))) (.cells #[.int .i64 c, .int .i64 a] 29 (0, 0)); (rw [show (w2.alloc _).heap.size = w2.heap.size + 1 by simp] at p2); have B3 := below_more (below_more B2 (.cells #[.int .i64 0, .string ⟨#[]⟩, .slice none 0 0] 24 (0, 0))) (.cells #[.int .i64 c, .int .i64 a] 29 (0, 0)); generalize (w2.alloc (.cells #[.int .i64 0, .string ⟨#[]⟩, .slice none 0 0] 24 (0, 0))).alloc (.cells #[.int .i64 c, .int .i64 a] 29 (0, 0)) = w3 at *; clear e0 e1 e2; obtain ⟨e0, e1, e2, -⟩ := blk3 p0; obtain ⟨i0, i1, i2, -⟩ := blk3 p1; obtain ⟨l0, l1, -⟩ := blk2 p2
  go_quiet (fail)
  go_wp2_with fail; go_ret; exact ⟨rfl, below_drewN nq B3⟩

set_option maxHeartbeats 4000000 in
theorem inside_kind (k : Int) (n : ByteArray) (ks : List Fm) (j : Nat) (kid : Fm) (hj : ks[j]? = some kid) (v : Value) (ahead behind s : ByteArray) (w : World) (hrep : Rep w (fun _ => True) (.mk k n ks) v)
    (hw : ∀ v w, Rep w (fun _ => True) kid v → Calls Try.prog 16 #[v] w fun e w' => e = .returned (.string s) ∧ Below w.heap.size w w')
    (hsz : ahead.size + s.size + behind.size ≤ 20000) (c : Int) (m : ByteArray) (cs : List Fm) (hc : c ≠ k)
    (hr : ∀ w, Calls Try.prog 18 #[.string (ahead ++ s ++ behind)] w fun e w' => ∃ v, e = .returned (.tuple #[v, .agg #[.int .i64 0, .int .i64 0]]) ∧ Rep w' (w.heap.size ≤ ·) (.mk c m cs) v ∧ Below w.heap.size w w') :
    Calls Try.prog 47 #[v, .int .i64 (j : Nat), .string ahead, .string behind] w fun e w' => e = .returned (.string (⟨#[40]⟩ ++ s ++ ⟨#[41]⟩)) ∧ Below w.heap.size w w' := by
  obtain ⟨sl, cap, rfl, hx1, hx2, hx3, hx4⟩ := Rep.def.1 hrep
  have hlt : j < ks.length := by
    rcases Nat.lt_or_ge j ks.length with h | h
    · exact h
    · rw [List.getElem?_eq_none h] at hj; cases hj
  (obtain ⟨b, off, rfl, -, hrs⟩ := hx4 (fun e => by rw [e] at hlt; simp at hlt)); obtain ⟨k2, n2, ks2⟩ := kid; obtain ⟨sl2, cap2, g0, g1, g2, hrep2⟩ := hrs.at j k2 n2 ks2 hj; have HW : Hid (∀ v w, _ → Calls Try.prog 16 #[v] w _) := hw; have HR : Hid (∀ w, Calls Try.prog 18 _ w _) := hr; (have hltI : (j : Int) < (ks.length : Int) := by omega); (have hlc : (j : Int) < (cap : Int) := by omega); have zb := lt_of_cell g0; (have hjI : (j : Int) ≤ 9223372036854775807 := by unfold maxLen at hx3; omega); (have hcJ : (c == k) = false := by simpa using hc); clear hw hr hrs hrep hj
  go_enter Try.func47, Try.ntmps47
  go_wp2_with (first
    | (go_at_call 16
       refine (HW.out _ _ (hrep2.more _)).mono ?_; rintro e w1 ⟨rfl, hb1⟩; have B1 := below_join (below_more (Below.refl _ w) _) hb1
       have q0 := below_keep hb1 (blk_new w _))
    | (go_at_call 18
       refine (HR.out _).mono ?_; rintro e w2 ⟨v3, rfl, hrep3, hb2⟩; obtain ⟨sl3, cap3, rfl⟩ := slice_shape hrep3; have B2 := below_join B1 hb2; have q1 := below_keep hb2 q0; have R3 := (hrep3.all.more (.cells #[.int .i64 c, .string m, .slice sl3 cs.length cap3] 24 (0, 0))).more (.cells #[.int .i64 0, .int .i64 0] 29 (0, 0)); obtain ⟨e0, e1, e2, -⟩ := blk3 q1
       have z1 := lt_of_block q1)
    | fail)
  have p0 := alloc_keep (alloc_keep q1 (.cells #[.int .i64 c, .string m, .slice sl3 cs.length cap3] 24 (0, 0))) (.cells #[.int .i64 0, .int .i64 0] 29 (0, 0)); have p1 := alloc_keep (blk_new w2 (.cells #[.int .i64 c, .string m, .slice sl3 cs.length cap3] 24 (0, 0))) (.cells #[.int .i64 0, .int .i64 0] 29 (0, 0)); have p2 := blk_new (w2.alloc (.cells #[.int .i64 c, .string m, .slice sl3 cs.length cap3] 24 (0, 0))) (.cells #[.int .i64 0, .int .i64 0] 29 (0, 0)); (rw [show (w2.alloc _).heap.size = w2.heap.size + 1 by simp] at p2); have B3 := below_more (below_more B2 (.cells #[.int .i64 c, .string m, .slice sl3 cs.length cap3] 24 (0, 0))) (.cells #[.int .i64 0, .int .i64 0] 29 (0, 0)); generalize (w2.alloc (.cells #[.int .i64 c, .string m, .slice sl3 cs.length cap3] 24 (0, 0))).alloc (.cells #[.int .i64 0, .int .i64 0] 29 (0, 0)) = w3 at *; clear e0 e1 e2; obtain ⟨e0, e1, e2, -⟩ := blk3 p0; obtain ⟨i0, i1, i2, -⟩ := blk3 p1; obtain ⟨l0, l1, -⟩ := blk2 p2
  go_quiet (fail)
  go_wp2_with fail; go_ret; exact ⟨rfl, below_drewN nq B3⟩

set_option maxHeartbeats 4000000 in
theorem inside_same (k : Int) (n : ByteArray) (ks : List Fm) (j : Nat) (kid : Fm) (hj : ks[j]? = some kid) (v : Value) (ahead behind s : ByteArray) (w : World) (hrep : Rep w (fun _ => True) (.mk k n ks) v)
    (hw : ∀ v w, Rep w (fun _ => True) kid v → Calls Try.prog 16 #[v] w fun e w' => e = .returned (.string s) ∧ Below w.heap.size w w')
    (hsz : ahead.size + s.size + behind.size ≤ 20000) (c : Int) (m : ByteArray) (cs : List Fm) (hc : c = k) (h : Fm) (hl : cs[j]? = some h) (d : Bool) (hd : sameB h kid = d)
    (hr : ∀ w, Calls Try.prog 18 #[.string (ahead ++ s ++ behind)] w fun e w' => ∃ v, e = .returned (.tuple #[v, .agg #[.int .i64 0, .int .i64 0]]) ∧ Rep w' (w.heap.size ≤ ·) (.mk c m cs) v ∧ Below w.heap.size w w') :
    Calls Try.prog 47 #[v, .int .i64 (j : Nat), .string ahead, .string behind] w fun e w' => e = .returned (.string (if d = true then s else ⟨#[40]⟩ ++ s ++ ⟨#[41]⟩)) ∧ Below w.heap.size w w' := by
  obtain ⟨sl, cap, rfl, hx1, hx2, hx3, hx4⟩ := Rep.def.1 hrep
  have hlt : j < ks.length := by
    rcases Nat.lt_or_ge j ks.length with h | h
    · exact h
    · rw [List.getElem?_eq_none h] at hj; cases hj
  (obtain ⟨b, off, rfl, -, hrs⟩ := hx4 (fun e => by rw [e] at hlt; simp at hlt)); obtain ⟨k2, n2, ks2⟩ := kid; obtain ⟨sl2, cap2, g0, g1, g2, hrep2⟩ := hrs.at j k2 n2 ks2 hj; have HW : Hid (∀ v w, _ → Calls Try.prog 16 #[v] w _) := hw; have HR : Hid (∀ w, Calls Try.prog 18 _ w _) := hr; (have hltI : (j : Int) < (ks.length : Int) := by omega); (have hlc : (j : Int) < (cap : Int) := by omega); have zb := lt_of_cell g0; (have hjI : (j : Int) ≤ 9223372036854775807 := by unfold maxLen at hx3; omega); subst hc
  have hlt3 : j < cs.length := by
    rcases Nat.lt_or_ge j cs.length with h | h
    · exact h
    · rw [List.getElem?_eq_none h] at hl; cases hl
  (have hltJ : (j : Int) < (cs.length : Int) := by omega); (have HSm := fun v u w h1 h2 => same_any h (.mk k2 n2 ks2) v u w h1 h2); rw [hd] at HSm; clear hd; obtain ⟨k4, n4, ks4⟩ := h; have HS : Hid (∀ v u w, _ → _ → Calls Try.prog 15 #[v, u] w _) := HSm; have HL : Hid (cs[j]? = some (.mk k4 n4 ks4)) := hl; clear HSm hl; clear hw hr hrs hrep hj
  go_enter Try.func47, Try.ntmps47
  go_wp2_with (first
    | (go_at_call 16
       refine (HW.out _ _ (hrep2.more _)).mono ?_; rintro e w1 ⟨rfl, hb1⟩; have B1 := below_join (below_more (Below.refl _ w) _) hb1
       have q0 := below_keep hb1 (blk_new w _))
    | (go_at_call 18
       refine (HR.out _).mono ?_; rintro e w2 ⟨v3, rfl, hrep3, hb2⟩; obtain ⟨sl3, cap3, rfl⟩ := slice_shape hrep3; have B2 := below_join B1 hb2; have q1 := below_keep hb2 q0; have R3 := (hrep3.all.more (.cells #[.int .i64 c, .string m, .slice sl3 cs.length cap3] 24 (0, 0))).more (.cells #[.int .i64 0, .int .i64 0] 29 (0, 0)); obtain ⟨e0, e1, e2, -⟩ := blk3 q1
       have z1 := lt_of_block q1)
    | fail)
  have p0 := alloc_keep (alloc_keep q1 (.cells #[.int .i64 c, .string m, .slice sl3 cs.length cap3] 24 (0, 0))) (.cells #[.int .i64 0, .int .i64 0] 29 (0, 0)); have p1 := alloc_keep (blk_new w2 (.cells #[.int .i64 c, .string m, .slice sl3 cs.length cap3] 24 (0, 0))) (.cells #[.int .i64 0, .int .i64 0] 29 (0, 0)); have p2 := blk_new (w2.alloc (.cells #[.int .i64 c, .string m, .slice sl3 cs.length cap3] 24 (0, 0))) (.cells #[.int .i64 0, .int .i64 0] 29 (0, 0)); (rw [show (w2.alloc _).heap.size = w2.heap.size + 1 by simp] at p2); have B3 := below_more (below_more B2 (.cells #[.int .i64 c, .string m, .slice sl3 cs.length cap3] 24 (0, 0))) (.cells #[.int .i64 0, .int .i64 0] 29 (0, 0)); generalize (w2.alloc (.cells #[.int .i64 c, .string m, .slice sl3 cs.length cap3] 24 (0, 0))).alloc (.cells #[.int .i64 0, .int .i64 0] 29 (0, 0)) = w3 at *; clear e0 e1 e2; obtain ⟨e0, e1, e2, -⟩ := blk3 p0; obtain ⟨i0, i1, i2, -⟩ := blk3 p1; obtain ⟨l0, l1, -⟩ := blk2 p2; obtain ⟨sl5, cap5, h5, -, hx5, hx6, hx7⟩ := Rep.def.1 R3; simp only [Value.agg.injEq, Array.mk.injEq, List.cons.injEq, Value.slice.injEq, true_and, and_true] at h5; obtain ⟨rfl, rfl⟩ := h5; (obtain ⟨b3, off3, rfl, -, hrs3⟩ := hx7 (fun e => by rw [e] at hlt3; simp at hlt3)); obtain ⟨sl4, cap4, m0, m1, m2, hrep4⟩ := hrs3.at j k4 n4 ks4 HL.out; (have hlc3 : (j : Int) < (cap3 : Int) := by omega); have zb3 := lt_of_cell m0; have zb1 : b < w3.heap.size := Nat.lt_of_lt_of_le zb B3.size; have z3 := lt_of_block p0; have z4 := lt_of_block p1; have z5 := lt_of_block p2; have c0 := (B3.cell (p := ⟨b, off + j * 3, none⟩) zb).trans g0; have c1 := (B3.cell (p := ⟨b, off + j * 3 + 1, none⟩) zb).trans g1; have c2 := (B3.cell (p := ⟨b, off + j * 3 + 2, none⟩) zb).trans g2; have hrep5 := hrep2.up B3; simp only at zb3; clear hx7 hrs3 R3 hrep3 hrep2
  go_region_held3 (fun w' => w'.cell? ⟨w2.heap.size + 1, 0, none⟩ = some (.int .i64 0) ∧ w'.cell? ⟨w2.heap.size, 0, none⟩ = some (.int .i64 c) ∧ w'.cell? ⟨w2.heap.size, 2, none⟩ = some (.slice (some ⟨b3, off3, none⟩) cs.length cap3) ∧ w'.cell? ⟨w.heap.size, 0, none⟩ = some (.int .i64 c) ∧ w'.cell? ⟨w.heap.size, 2, none⟩ = some (.slice (some ⟨b, off, none⟩) ks.length cap) ∧ w'.cell? ⟨b, off + j * 3, none⟩ = some (.int .i64 k2) ∧ w'.cell? ⟨b, off + j * 3 + 1, none⟩ = some (.string n2) ∧ w'.cell? ⟨b, off + j * 3 + 2, none⟩ = some (.slice sl2 ks2.length cap2) ∧ w'.cell? ⟨b3, off3 + j * 3, none⟩ = some (.int .i64 k4) ∧ w'.cell? ⟨b3, off3 + j * 3 + 1, none⟩ = some (.string n4) ∧ w'.cell? ⟨b3, off3 + j * 3 + 2, none⟩ = some (.slice sl4 ks4.length cap4)) (go_keep)
    (first
     | (go_at_call 15
        refine (HS.out _ _ _ (hrep4.up (Below.refl _ _).drew) (hrep5.up (Below.refl _ _).drew)).mono ?_; rintro e w4 ⟨rfl, hb4⟩; have hb4' : Below w3.heap.size w3 w4 := (Below.refl _ w3).drew.trans hb4; clear hb4; have t0 := (hb4'.cell (p := ⟨w2.heap.size + 1, 0, none⟩) z5).trans l0; have t1 := (hb4'.cell (p := ⟨w2.heap.size, 0, none⟩) z4).trans i0; have t2 := (hb4'.cell (p := ⟨w2.heap.size, 2, none⟩) z4).trans i2; have t3 := (hb4'.cell (p := ⟨w.heap.size, 0, none⟩) z3).trans e0; have t4 := (hb4'.cell (p := ⟨w.heap.size, 2, none⟩) z3).trans e2; have t5 := (hb4'.cell (p := ⟨b, off + j * 3, none⟩) zb1).trans c0; have t6 := (hb4'.cell (p := ⟨b, off + j * 3 + 1, none⟩) zb1).trans c1; have t7 := (hb4'.cell (p := ⟨b, off + j * 3 + 2, none⟩) zb1).trans c2; have t8 := (hb4'.cell (p := ⟨b3, off3 + j * 3, none⟩) zb3).trans m0; have t9 := (hb4'.cell (p := ⟨b3, off3 + j * 3 + 1, none⟩) zb3).trans m1
        have tt := (hb4'.cell (p := ⟨b3, off3 + j * 3 + 2, none⟩) zb3).trans m2)
     | fail)
  clear t0 t1 t2 t3 t4 t5 t6 t7 t8 t9 tt; have B5 := below_join B3 hb4'; clear HS
  cases d
  · go_wp2_with fail
    go_ret; exact ⟨rfl, B5⟩
  · go_wp2_with fail
    go_ret; exact ⟨rfl, B5⟩

theorem str_add (a b c : ByteArray) : (a ++ b ++ c).data.toList = a.data.toList ++ b.data.toList ++ c.data.toList ∧ (a ++ b ++ c).size = a.size + b.size + c.size := by
  constructor
  · simp
  · rw [ByteArray.size_append, ByteArray.size_append]

/-- A part in brackets, if it would be read otherwise without them. -/
theorem inside_any (k : Int) (n : ByteArray) (ks : List Fm) (hf : Fine (.mk k n ks)) (j : Nat) (kid : Fm) (hj : ks[j]? = some kid) (v : Value) (ahead behind s : ByteArray) (w : World) (hrep : Rep w (fun _ => True) (.mk k n ks) v)
    (hw : ∀ v w, Rep w (fun _ => True) kid v → Calls Try.prog 16 #[v] w fun e w' => e = .returned (.string s) ∧ Below w.heap.size w w')
    (hsz : ahead.size + s.size + behind.size ≤ 20000) (x : Res) (hx : Ev (mThen · (ahead.data.toList ++ s.data.toList ++ behind.data.toList)) x) (d : Bool) (hd : decO (outOf (ahead.size + s.size + behind.size) x) k j kid = d) :
    Calls Try.prog 47 #[v, .int .i64 (j : Nat), .string ahead, .string behind] w fun e w' => e = .returned (.string (if d = true then s else ⟨#[40]⟩ ++ s ++ ⟨#[41]⟩)) ∧ Below w.heap.size w w' := by
  obtain ⟨ht, hs2⟩ := str_add ahead s behind; rw [← ht] at hx; rw [← hs2] at hd
  rcases ho : outOf (ahead ++ s ++ behind).size x with G | ⟨c, a⟩
  · have hr := fun w => read_ok (ahead ++ s ++ behind) (by omega) w x hx G ho
    rw [ho] at hd
    have hG : Fine G := by
      cases x with
      | bad r => cases ho
      | ok g r =>
        have := ev_fine hx; rw [outOf] at ho
        split at ho
        · split at ho
          · cases ho
          · cases ho; exact this
        · cases ho
    obtain ⟨c, m, cs⟩ := G; by_cases hc : c = k
    · have hl : cs.length = ks.length := by
        have h1 := (nodeF_parts hG.node).2.2.1; have h2 := (nodeF_parts hf.node).2.2.1; rw [hc] at h1; omega
      have hlt : j < ks.length := by
        rcases Nat.lt_or_ge j ks.length with h | h
        · exact h
        · rw [List.getElem?_eq_none h] at hj; cases hj
      (obtain ⟨h, hh⟩ : ∃ h, cs[j]? = some h := ⟨_, List.getElem?_eq_getElem (by omega)⟩)
      have hdd : sameB h kid = d := by
        rw [← hd]; simp [decO, Fm.kind, Fm.kids, hc, hh]
      exact inside_same k n ks j kid hj v ahead behind s w hrep hw hsz c m cs hc h hh d hdd hr
    · have hdd : d = false := by
        rw [← hd]; simp [decO, Fm.kind, hc]
      rw [hdd]; exact inside_kind k n ks j kid hj v ahead behind s w hrep hw hsz c m cs hc hr
  · rw [ho] at hd
    have hdd : d = false := hd.symm; rw [hdd]; (exact inside_fault k n ks j kid hj v ahead behind s w hrep hw hsz c a (outOf_code ho) (fun w => read_bad (ahead ++ s ++ behind) (by omega) w x hx c a ho))
end Go.Proofs.Ytfhbpfgbnfcdaaa
