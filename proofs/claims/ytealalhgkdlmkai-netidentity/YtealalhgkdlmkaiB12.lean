/- Texts of one proof, one behind the other: NT4. -/
import Derived.Test.YtealalhgkdlmkaiB06
/- Walks: net's checker: look and checkList. -/
namespace Go.Proofs.Ytealalhgkdlmkai
open Go.RowKit Go.Sort

/-- The checker's block. -/
def RK (bc : Nat) (w : World) (s : Nat) : Prop := w.heap[bc]? = some (.cells #[.int .i64 s] 96 (0, 0))
theorem RK.lt {bc : Nat} {w : World} {s : Nat} (h : RK bc w s) : bc < w.heap.size := lt_of_block h
theorem RK.c0 {bc : Nat} {w : World} {s : Nat} (h : RK bc w s) : w.cell? ⟨bc, 0, none⟩ = some (.int .i64 s) := blk_cell h 0
theorem RK.fz {bc : Nat} {w : World} {s : Nat} (h : RK bc w s) : w.frozen? ⟨bc, 0, none⟩ = false := blk_fz h 0
theorem RK.alloc {bc : Nat} {w : World} {s : Nat} (h : RK bc w s) (o : Obj) : RK bc (w.alloc o) s := by
  unfold RK; rw [Below.heap_alloc _ _ _ h.lt]; exact h
theorem RK.set {bc : Nat} {w : World} {s : Nat} (h : RK bc w s) (s' : Nat) : RK bc (w.setCell ⟨bc, 0, none⟩ (.int .i64 s')) s' := by
  unfold RK at *; simp [World.setCell, Array.getElem?_modify, h]
theorem RK.below {bc : Nat} {w w' : World} {s : Nat} (h : RK bc w s) (hb : Below w.heap.size w w') : RK bc w' s := by
  unfold RK; rw [hb.block _ h.lt]; exact h
/-- What a look at a linear formula leaves. -/
def LKPost (bc : Nat) : Chk → Ending → World → Prop
  | .ok s, e, w' => e = .returned (.tuple #[]) ∧ RK bc w' s
  | .bad c a, e, _ => e = .panicked (stopC c a)
def LLooks (m : Nat) : Prop := ∀ (bc s : Nat) (f : Lm) (v : Value) (w0 w : World), f.size < m → LRep w0 f v → Below w0.heap.size w0 w → w0.heap.size ≤ bc → RK bc w s → s ≤ 200 →
  Calls Try.prog 58 #[.pointer (some ⟨bc, 0, none⟩), v] w fun e w' => Below w0.heap.size w0 w' ∧ LKPost bc (lchk f s) e w'
theorem lchks_drop {ks : List Lm} {i : Nat} {f : Lm} (h : ks[i]? = some f) (s : Nat) : lchks (ks.drop i) s = match lchk f s with | .bad c a => .bad c a | .ok s' => lchks (ks.drop (i + 1)) s' := by
  have hi : i < ks.length := by
    rcases Nat.lt_or_ge i ks.length with h' | h'
    · exact h'
    · rw [List.getElem?_eq_none h'] at h; cases h
  rw [List.drop_eq_getElem_cons hi, lchks]; rw [List.getElem?_eq_getElem hi] at h; rw [Option.some.inj h]
  cases lchk f s <;> rfl
set_option maxHeartbeats 2000000 in
theorem llook_step (m : Nat) (ih : LLooks m) : LLooks (m + 1) := by
  intro bc s f v w0 w hm hrep hbw hbc hc hs; obtain ⟨k, n, g, ks⟩ := f; obtain ⟨sl, cap, rfl, hx1, hx2, hx3, hx4⟩ := LRep.def.1 hrep; have f0 := hc.c0; have f1 := hc.fz; have z0 := hc.lt; by_cases h200 : s = 200
  · subst h200
    go_enter Try.func58, Try.ntmps58
    go_wp2_with (first
      | (go_at_call 57; refine (stop_any _ _ _).mono ?_; rintro e w4 ⟨rfl, rfl⟩)
      | fail)
    refine ⟨rfl, below_more hbw _, ?_⟩; simp only [lchk, if_true, LKPost]; rfl
  · have hs1 : ((s : Int) == 200) = false := by simp; omega
    (have hs2 : (s : Int) ≤ 200 := by omega)
    rcases hnf : lnodeF k n g ks.length with _ | c
    · have hchk : lchk (.mk k n g ks) s = lchks ks (s + 1) := by rw [lchk, if_neg h200, hnf]
      rw [hchk]; have HX : Hid (LL w0 (.slice sl ks.length cap) ks) := hrep.kidsL; have HBw : Hid (Below w0.heap.size w0 w) := hbw; have HBc : Hid (w0.heap.size ≤ bc) := hbc; clear hx4 hbw hbc; (have hlen : ((ks.length : Nat) : Int) ≤ 9223372036854775807 := by unfold maxLen at hx3; omega)
      go_enter Try.func58, Try.ntmps58
      go_wp2_with (first
        | (go_at_call 86
           refine (lnodeF_none hnf _ hx1 _ _ _).mono ?_; rintro e w4 ⟨rfl, hb⟩
           have q4 : w4.heap[w.heap.size]? = some (.cells #[.int .i64 k, .string n, .bool g, .slice sl ks.length cap] 52 (0, 0)) := by
             (rw [hb.block _ (by simp [World.setCell])]); have := blk_new (w.setCell ⟨bc, 0, none⟩ (.int .i64 (s + 1))) (.cells #[.int .i64 k, .string n, .bool g, .slice sl ks.length cap] 52 (0, 0)); simpa [World.setCell] using this
           have f3 := blk_cell q4 3
           simp at f3)
        | fail)
      have hc4 : RK bc w4 (s + 1) := ((hc.set (s + 1)).alloc _).below hb; have hk4 : Below w0.heap.size w0 w4 := below_join (below_more (HBw.out.setCell (p := ⟨bc, 0, none⟩) HBc.out _) _) hb; clear f0 f1 f3 hb
      go_loopg [27] ks.length (fun g v wr => ∃ i s', i ≤ ks.length ∧ g = ks.length - i ∧ v = .int .i64 (i : Nat) ∧ s' ≤ 200 ∧ RK bc wr s' ∧ Hid (Below w0.heap.size w0 wr) ∧ Hid (lchks (ks.drop i) s' = lchks ks (s + 1)))
      case atStart => exact ⟨0, s + 1, by omega, by omega, rfl, by omega, hc4, hk4, by show _ = _; simp⟩
      case round =>
        obtain ⟨i, s', hi, hg, rfl, hs', hcr, HKr, HC⟩ := hrel; have HG : Hid (gk = ks.length - i) := hg; clear hg hc4 hk4 q4; by_cases hlt : i < ks.length
        · obtain ⟨⟨k2, n2, g2, ks2⟩, hki⟩ : ∃ f, ks[i]? = some f := ⟨_, List.getElem?_eq_getElem hlt⟩
          obtain ⟨b, off, sl2, cap2, rfl, -⟩ := HX.out.at i k2 n2 g2 ks2 hki; obtain ⟨b', off', sl2, cap2, e, y0, y1, y2, y3, hrep2⟩ := (HX.out.up HKr.out).at i k2 n2 g2 ks2 hki
          cases e
          have hrep3 : LRep w0 (.mk k2 n2 g2 ks2) (.agg #[.int .i64 k2, .string n2, .bool g2, .slice sl2 ks2.length cap2]) := by
            obtain ⟨b9, off9, sl9, cap9, e9, -, -, -, z3, hr9⟩ := HX.out.at i k2 n2 g2 ks2 hki
            cases e9
            have := ((HKr.out.cell (lt_of_cell z3)).trans z3).symm.trans y3; simp only [Option.some.injEq, Value.slice.injEq, true_and] at this; obtain ⟨rfl, rfl⟩ := this; exact hr9
          (have hlt2 : (i : Int) < (ks.length : Int) := by omega); have hds := HC.out; rw [lchks_drop hki] at hds; (have hsz : (Lm.mk k2 n2 g2 ks2).size < m := by have := lsizes_get hki; rw [Lm.size] at hm; omega); (have HI : Hid (∀ w, RK bc w s' → Below w0.heap.size w0 w → Calls Try.prog 58 #[.pointer (some ⟨bc, 0, none⟩), .agg #[.int .i64 k2, .string n2, .bool g2, .slice sl2 ks2.length cap2]] w fun e w' => Below w0.heap.size w0 w' ∧ LKPost bc (lchk (.mk k2 n2 g2 ks2) s') e w') := fun w h1 h2 => ih bc s' _ _ w0 w hsz hrep3 h2 HBc.out h1 hs'); clear hki hrep HX HC hnf hchk hrep2 hrep3
          rcases hck : lchk (.mk k2 n2 g2 ks2) s' with s2 | ⟨c, a⟩
          · rw [hck] at hds HI
            simp only at hds; have HD : Hid (lchks (ks.drop (i + 1)) s2 = lchks ks (s + 1)) := hds; have hs2' := (lchk_le _ _ _ hck hs').1; clear hds hck
            go_wp2_with (first
              | (go_at_call 58
                 refine (HI.out _ (hcr.alloc _) (below_more HKr.out _)).mono ?_
                 rintro e w5 ⟨hk5, rfl, hc5⟩)
              | fail)
            go_roundg (ks.length - (i + 1))
            case measure => have := HG.out; omega
            case rel => exact ⟨i + 1, s2, by omega, rfl, by go_num, hs2', hc5, hk5, HD⟩
          · rw [hck] at hds HI
            simp only at hds; have HD : Hid (Chk.bad c a = lchks ks (s + 1)) := hds; clear hds hck
            go_wp2_with (first
              | (go_at_call 58
                 refine (HI.out _ (hcr.alloc _) (below_more HKr.out _)).mono ?_; rintro e w5 ⟨hk5, he5⟩
                 obtain rfl : e = _ := he5)
              | fail)
            (exact ⟨rfl, hk5, by rw [← HD.out]; rfl⟩)
        · go_wp2_with fail
          go_end0
          refine ⟨HKr.out, ?_⟩; (rw [← HC.out, List.drop_of_length_le (by omega), lchks]); exact ⟨rfl, hcr⟩
    · have HBw : Hid (Below w0.heap.size w0 w) := hbw
      have HBc : Hid (w0.heap.size ≤ bc) := hbc; clear hbw hbc
      go_enter Try.func58, Try.ntmps58
      go_wp2_with (first
        | (go_at_call 86
           refine (lnodeF_some hnf _ hx1 _ _ _).mono ?_
           rintro e w4 ⟨rfl, hb⟩)
        | fail)
      refine ⟨rfl, below_join (below_more (HBw.out.setCell (p := ⟨bc, 0, none⟩) HBc.out _) _) hb, ?_⟩; rw [lchk, if_neg h200, hnf]; rfl
theorem llooks_all : ∀ m, LLooks m
  | 0 => fun _ _ _ _ _ _ h => absurd h (Nat.not_lt_zero _)
  | m + 1 => llook_step m (llooks_all m)
/-- What checkList leaves. -/
def CLPost (x : Chk) (e : Ending) : Prop := match x with
  | .ok _ => e = .returned (.tuple #[])
  | .bad c a => e = .panicked (stopC c a)
set_option maxHeartbeats 2000000 in
theorem checkList_any (l : List Lm) (v : Value) (w : World) (hv : LL w v l) :
    Calls Try.prog 36 #[v] w fun e w' => CLPost (lcodeC l) e ∧ Below w.heap.size w w' := by
  have HX : Hid (LL w v l) := hv; obtain ⟨sl, cap, rfl, hx2, hx3, -⟩ := hv; (have hlen : ((l.length : Nat) : Int) ≤ 9223372036854775807 := by unfold maxLen at hx3; omega); by_cases h1 : l.length < 1
  · have hc : lcodeC l = .bad 2 0 := by rw [lcodeC, if_pos (Or.inl h1)]
    rw [hc]; (have h1' : (l.length : Int) < 1 := by omega)
    go_enter Try.func36, Try.ntmps36
    go_wp2_with (first
      | (go_at_call 57; refine (stop_any _ _ _).mono ?_; rintro e w4 ⟨rfl, rfl⟩)
      | fail)
    exact ⟨rfl, rfl, Below.refl _ _⟩
  by_cases h2 : 20 < l.length
  · have hc : lcodeC l = .bad 2 0 := by rw [lcodeC, if_pos (Or.inr h2)]
    rw [hc]; (have h1' : ¬ (l.length : Int) < 1 := by omega); (have h2' : (20 : Int) < (l.length : Int) := by omega)
    go_enter Try.func36, Try.ntmps36
    go_wp2_with (first
      | (go_at_call 57; refine (stop_any _ _ _).mono ?_; rintro e w4 ⟨rfl, rfl⟩)
      | fail)
    exact ⟨rfl, rfl, Below.refl _ _⟩
  (have hcode : lcodeC l = lchks l 0 := by rw [lcodeC, if_neg (by omega)]); rw [hcode]; (have h1' : ¬ (l.length : Int) < 1 := by omega); (have h2' : ¬ (20 : Int) < (l.length : Int) := by omega); clear h1 h2 hcode
  go_enter Try.func36, Try.ntmps36
  go_wp2_with fail
  go_loopg [17] l.length (fun g v wr => ∃ i s', i ≤ l.length ∧ g = l.length - i ∧ v = .int .i64 (i : Nat) ∧ s' ≤ 200 ∧ RK w.heap.size wr s' ∧ Hid (Below w.heap.size w wr) ∧ Hid (lchks (l.drop i) s' = lchks l 0))
  case atStart => exact ⟨0, 0, by omega, by omega, rfl, by omega, blk_new _ _, below_more (Below.refl _ _) _, by show _ = _; simp⟩
  case round =>
    obtain ⟨i, s', hi, hg, rfl, hs', hcr, HKr, HC⟩ := hrel; have HG : Hid (gk = l.length - i) := hg; clear hg; have z0 := hcr.lt; by_cases hlt : i < l.length
    · obtain ⟨⟨k2, n2, g2, ks2⟩, hki⟩ : ∃ f, l[i]? = some f := ⟨_, List.getElem?_eq_getElem hlt⟩
      obtain ⟨b, off, sl2, cap2, rfl, y0, y1, y2, y3, hr⟩ := HX.out.at i k2 n2 g2 ks2 hki; have x0 := (HKr.out.cell (lt_of_cell y0)).trans y0; have x1 := (HKr.out.cell (lt_of_cell y1)).trans y1; have x2 := (HKr.out.cell (lt_of_cell y2)).trans y2; have x3 := (HKr.out.cell (lt_of_cell y3)).trans y3; (have hlt2 : (i : Int) < (l.length : Int) := by omega); have hds := HC.out; rw [lchks_drop hki] at hds; (have HI : Hid (∀ W, RK w.heap.size W s' → Below w.heap.size w W → Calls Try.prog 58 #[.pointer (some ⟨w.heap.size, 0, none⟩), .agg #[.int .i64 k2, .string n2, .bool g2, .slice sl2 ks2.length cap2]] W fun e w' => Below w.heap.size w w' ∧ LKPost w.heap.size (lchk (.mk k2 n2 g2 ks2) s') e w') := fun W h1 h2 => llooks_all _ w.heap.size s' _ _ w W (Nat.lt_succ_self _) hr h2 (Nat.le_refl _) h1 hs'); clear hki HC hr y0 y1 y2 y3
      rcases hck : lchk (.mk k2 n2 g2 ks2) s' with s2 | ⟨c, a⟩
      · rw [hck] at hds HI
        simp only at hds; have HD : Hid (lchks (l.drop (i + 1)) s2 = lchks l 0) := hds; have hs2' := (lchk_le _ _ _ hck hs').1; clear hds hck
        go_wp2_with (first
          | (go_at_call 58
             refine (HI.out _ (hcr.alloc _) (below_more HKr.out _)).mono ?_
             rintro e w5 ⟨hk5, rfl, hc5⟩)
          | fail)
        go_roundg (l.length - (i + 1))
        case measure => have := HG.out; omega
        case rel => exact ⟨i + 1, s2, by omega, rfl, by go_num, hs2', hc5, hk5, HD⟩
      · rw [hck] at hds HI
        simp only at hds; have HD : Hid (Chk.bad c a = lchks l 0) := hds; clear hds hck
        go_wp2_with (first
          | (go_at_call 58
             refine (HI.out _ (hcr.alloc _) (below_more HKr.out _)).mono ?_; rintro e w5 ⟨hk5, he5⟩
             obtain rfl : e = _ := he5)
          | fail)
        (exact ⟨rfl, by rw [← HD.out]; rfl, hk5⟩)
    · go_wp2_with fail
      go_end0
      refine ⟨?_, HKr.out⟩; (rw [← HC.out, List.drop_of_length_le (by omega), lchks]); rfl
end Go.Proofs.Ytealalhgkdlmkai
