/- Texts of one proof, one behind the other: Tr11, TC1, TC4, TC5, TY3, TY4, TZ1. -/
import Derived.Test.YtpmogojpdigbmabGreatB08
import Derived.Laws.EntriesVeiled
import Derived.Test.YtpmogojpdigbmabGreatB06
/- Walks: Value. -/
namespace Go.Proofs.YtpmogojpdigbmabGreat
open Go.RowKit Go.Sort

/-- What Value says of its arguments. -/
def vcode (f : Fm) (l : List (List UInt8)) : Int × Int := if f.pcode.1 = 0 then (if 1000 < l.length then (2, 0) else if l.any (fun t => !isNm t) then (8, ((l.findIdx (fun t => !isNm t) : Nat) : Int)) else (0, 0)) else f.pcode

set_option maxHeartbeats 2000000 in
theorem value_bad (f : Fm) (l : List (List UInt8)) (v u : Value) (w : World) (hrep : Rep w (fun _ => True) f v) (hu : SL w u l) (c a : Int) (hc : c ≠ 0) (hcf : f.pcode = (c, a)) :
    Calls Tryz.prog 41 #[v, u] w fun e w' => e = .returned (.tuple #[.bool false, .agg #[.int .i64 c, .int .i64 a]]) ∧ Below w.heap.size w w' := by
  (have hck := fun v (w : World) h => plainFault_any f v w h); rw [hcf] at hck; (have hne' : (c != 0) = true := by simpa using hc); obtain ⟨k, n, ks⟩ := f; obtain ⟨sl, cap, rfl⟩ := slice_shape hrep; have HC : Hid (∀ v w, _ → Calls Tryz.prog 78 #[v] w _) := hck; have HU : Hid (SL w u l) := hu; obtain ⟨adL, cpL, rfl, hl1, hl2, -⟩ := hu; clear hck hcf
  go_enter Tryz.func41, Tryz.ntmps41
  go_wp2_with (first
    | (go_at_call 78
       refine (HC.out _ _ ((hrep.more _).more _)).mono ?_; rintro e w1 ⟨rfl, hb1⟩; have z1 := hb1.size; simp at z1; have q0 := below_keep hb1 (alloc_keep (blk_new w _) _); have q1 := below_keep hb1 (blk_new (w.alloc _) _); (rw [show (w.alloc _).heap.size = w.heap.size + 1 by simp] at q1); have B1 := below_join (below_more (below_more (Below.refl _ w) _) _) hb1; obtain ⟨k1, k2, k3, k4⟩ := blk2 q1; obtain ⟨a0, a1, a2, -⟩ := blk3 q0; have y0 : w.heap.size < w1.heap.size := lt_of_block q0; (have d1 : ¬ w.heap.size + 1 = w1.heap.size := by omega); (have d2 : ¬ w1.heap.size = w.heap.size + 1 := by omega)
       have d3 : w.heap.size + 1 < w1.heap.size := by omega)
    | fail)
  go_region
  all_goals go_wp2
  have f2 := set2 q1 (.int .i64 c) (.int .i64 a); (have b2 := (B1.setCell (p := ⟨w.heap.size + 1, 0, none⟩) (by simp) (.int .i64 c)).setCell (p := ⟨w.heap.size + 1, 1, none⟩) (by simp) (.int .i64 a)); (have hsz : ((w1.setCell ⟨w.heap.size + 1, 0, none⟩ (.int .i64 c)).setCell ⟨w.heap.size + 1, 1, none⟩ (.int .i64 a)).heap.size = w1.heap.size := by simp [World.setCell]); generalize World.setCell _ _ _ = F at f2 b2 hsz ⊢; clear k1 k2 k3 k4; obtain ⟨k1, k2, -⟩ := blk2 f2; (have d4 : w.heap.size + 1 < F.heap.size := by omega); (exact bodyPost_ret (v := .tuple #[.bool false, .agg #[.int .i64 c, .int .i64 a]]) (by simp [results, Tryz.results41, go_sem, k1, k2, d4]) rfl ⟨rfl, (b2.alloc (by omega) _).drew⟩)

set_option maxHeartbeats 2000000 in
theorem value_many (f : Fm) (l : List (List UInt8)) (v u : Value) (w : World) (hrep : Rep w (fun _ => True) f v) (hu : SL w u l) (hcf : f.pcode = (0, 0)) (hl : 1000 < l.length) :
    Calls Tryz.prog 41 #[v, u] w fun e w' => e = .returned (.tuple #[.bool false, .agg #[.int .i64 2, .int .i64 0]]) ∧ Below w.heap.size w w' := by
  (have hck := fun v (w : World) h => plainFault_any f v w h); rw [hcf] at hck; (have hlI : (1000 : Int) < (l.length : Int) := by omega); obtain ⟨k, n, ks⟩ := f; obtain ⟨sl, cap, rfl⟩ := slice_shape hrep; have HC : Hid (∀ v w, _ → Calls Tryz.prog 78 #[v] w _) := hck; have HU : Hid (SL w u l) := hu; obtain ⟨adL, cpL, rfl, hl1, hl2, -⟩ := hu; clear hck hcf
  go_enter Tryz.func41, Tryz.ntmps41
  go_wp2_with (first
    | (go_at_call 78
       refine (HC.out _ _ ((hrep.more _).more _)).mono ?_; rintro e w1 ⟨rfl, hb1⟩; have z1 := hb1.size; simp at z1; have q0 := below_keep hb1 (alloc_keep (blk_new w _) _); have q1 := below_keep hb1 (blk_new (w.alloc _) _); (rw [show (w.alloc _).heap.size = w.heap.size + 1 by simp] at q1); have B1 := below_join (below_more (below_more (Below.refl _ w) _) _) hb1; obtain ⟨k1, k2, k3, k4⟩ := blk2 q1; obtain ⟨a0, a1, a2, -⟩ := blk3 q0; have y0 : w.heap.size < w1.heap.size := lt_of_block q0; (have d1 : ¬ w.heap.size + 1 = w1.heap.size := by omega); (have d2 : ¬ w1.heap.size = w.heap.size + 1 := by omega)
       have d3 : w.heap.size + 1 < w1.heap.size := by omega)
    | fail)
  have f2 := set2 q1 (.int .i64 2) (.int .i64 0); (have b2 := (B1.setCell (p := ⟨w.heap.size + 1, 0, none⟩) (by simp) (.int .i64 2)).setCell (p := ⟨w.heap.size + 1, 1, none⟩) (by simp) (.int .i64 0)); (have hsz : ((w1.setCell ⟨w.heap.size + 1, 0, none⟩ (.int .i64 2)).setCell ⟨w.heap.size + 1, 1, none⟩ (.int .i64 0)).heap.size = w1.heap.size := by simp [World.setCell]); generalize World.setCell _ _ _ = F at f2 b2 hsz ⊢; clear k1 k2 k3 k4; obtain ⟨k1, k2, -⟩ := blk2 f2; (have d4 : w.heap.size + 1 < F.heap.size := by omega); (exact bodyPost_ret (v := .tuple #[.bool false, .agg #[.int .i64 2, .int .i64 0]]) (by simp [results, Tryz.results41, go_sem, k1, k2, d4]) rfl ⟨rfl, b2.alloc (by omega) _⟩)

set_option maxHeartbeats 2000000 in
theorem value_name (f : Fm) (l : List (List UInt8)) (v u : Value) (w : World) (hrep : Rep w (fun _ => True) f v) (hu : SL w u l) (hcf : f.pcode = (0, 0)) (hl : l.length ≤ 1000) (hmx : ∀ t ∈ l, t.length ≤ maxLen) (i : Nat) (hi : fIdxP (fun t => !isNm t) l = ((i : Nat) : Int)) :
    Calls Tryz.prog 41 #[v, u] w fun e w' => e = .returned (.tuple #[.bool false, .agg #[.int .i64 8, .int .i64 (i : Nat)]]) ∧ Below w.heap.size w w' := by
  (have hck := fun v (w : World) h => plainFault_any f v w h); rw [hcf] at hck; (have hix := fun v (w : World) h => idxFunc_str predNoName l hmx v w h trivial); rw [hi] at hix; have HI : Hid (∀ v w, SL w v l → Calls Tryz.prog 79 #[v, .func (.func 80) #[] #[]] w _) := hix; (have hlI : (l.length : Int) ≤ 1000 := by omega); clear hix hi; obtain ⟨k, n, ks⟩ := f; obtain ⟨sl, cap, rfl⟩ := slice_shape hrep; have HC : Hid (∀ v w, _ → Calls Tryz.prog 78 #[v] w _) := hck; have HU : Hid (SL w u l) := hu; obtain ⟨adL, cpL, rfl, hl1, hl2, -⟩ := hu; clear hck hcf
  go_enter Tryz.func41, Tryz.ntmps41
  go_wp2_with (first
    | (go_at_call 78
       refine (HC.out _ _ ((hrep.more _).more _)).mono ?_; rintro e w1 ⟨rfl, hb1⟩; have z1 := hb1.size; simp at z1; have q0 := below_keep hb1 (alloc_keep (blk_new w _) _); have q1 := below_keep hb1 (blk_new (w.alloc _) _); (rw [show (w.alloc _).heap.size = w.heap.size + 1 by simp] at q1); have B1 := below_join (below_more (below_more (Below.refl _ w) _) _) hb1; obtain ⟨k1, k2, k3, k4⟩ := blk2 q1; obtain ⟨a0, a1, a2, -⟩ := blk3 q0; have y0 : w.heap.size < w1.heap.size := lt_of_block q0; (have d1 : ¬ w.heap.size + 1 = w1.heap.size := by omega); (have d2 : ¬ w1.heap.size = w.heap.size + 1 := by omega)
       have d3 : w.heap.size + 1 < w1.heap.size := by omega)
    | (go_at_call 79
       refine (HI.out _ _ ((HU.out.up B1).up ((Below.refl _ _).alloc (Nat.le_refl _) _))).mono ?_; rintro e w2 ⟨rfl, hb2⟩; have r1 := below_keep hb2 (alloc_keep q1 _); have r0 := below_keep hb2 (alloc_keep q0 _); have B2 := below_join (below_more B1 _) hb2; have l1 := lt_of_block r1; have l0 := lt_of_block r0; clear k1 k2 k3 k4 a0 a1 a2; obtain ⟨a0, a1, a2, -⟩ := blk3 r0
       obtain ⟨k1, k2, k3, k4⟩ := blk2 r1)
    | fail)
  have f2 := set2 r1 (.int .i64 8) (.int .i64 (i : Nat)); (have b2 := (B2.setCell (p := ⟨w.heap.size + 1, 0, none⟩) (by simp) (.int .i64 8)).setCell (p := ⟨w.heap.size + 1, 1, none⟩) (by simp) (.int .i64 (i : Nat))); (have hsz : ((w2.setCell ⟨w.heap.size + 1, 0, none⟩ (.int .i64 8)).setCell ⟨w.heap.size + 1, 1, none⟩ (.int .i64 (i : Nat))).heap.size = w2.heap.size := by simp [World.setCell]); generalize World.setCell _ _ _ = F at f2 b2 hsz ⊢; clear k1 k2 k3 k4; obtain ⟨k1, k2, -⟩ := blk2 f2; (exact bodyPost_ret (v := .tuple #[.bool false, .agg #[.int .i64 8, .int .i64 (i : Nat)]]) (by simp [results, Tryz.results41, go_sem, k1, k2]) rfl ⟨rfl, b2⟩)

set_option maxHeartbeats 2000000 in
theorem value_yes (f : Fm) (l : List (List UInt8)) (v u : Value) (w : World) (hrep : Rep w (fun _ => True) f v) (hu : SL w u l) (hcf : f.pcode = (0, 0)) (hl : l.length ≤ 1000) (hmx : ∀ t ∈ l, t.length ≤ maxLen) (hi : l.any (fun t => !isNm t) = false) :
    Calls Tryz.prog 41 #[v, u] w fun e w' => e = .returned (.tuple #[.bool (tv (fun t => decide (t ∈ l)) f), .agg #[.int .i64 0, .int .i64 0]]) ∧ Below w.heap.size w w' := by
  (have hck := fun v (w : World) h => plainFault_any f v w h); rw [hcf] at hck; (have hix := fun v (w : World) h => idxFunc_str predNoName l hmx v w h trivial); (have hi1 : fIdxP (fun t => !isNm t) l = -1 := by unfold fIdxP; rw [hi]; rfl); rw [hi1] at hix
  have hsm : ∀ t ∈ l, t.length ≤ 8 := fun t ht => by
    have := List.any_eq_false.1 hi t ht; (have := isNm_bd (l := t) (by simpa using this)); omega
  (obtain ⟨⟨s, hs⟩, hpl, -⟩ := pcode_ok (f := f) (by rw [hcf])); (have htr := fun cb v (w : World) h o => isTrue_any (asksV cb l) f v w (fine_of_chk f 0 s hs) hpl h o); (generalize tv (fun t => decide (t ∈ l)) f = bb at *); have HI : Hid (∀ v w, SL w v l → Calls Tryz.prog 79 #[v, .func (.func 80) #[] #[]] w _) := hix; (have HPl : Hid (∀ v w, SL w v l → Calls Tryz.prog 81 #[v] w _) := fun v w h => placesOf_any l hl hsm v w h); (have HTr : Hid (∀ cb v w, Rep w (fun _ => True) f v → OkV cb l w → Calls Tryz.prog 83 _ w _) := htr); (have hmf : ∀ (fn : Fn) (first cap : Array Value) (w : World), (Instr.makeFunc fn first cap).run Tryz.prog w = .ok (.func fn first cap) w := fun _ _ _ _ => rfl); (have hlI : (l.length : Int) ≤ 1000 := by omega); clear hix hi hi1 htr hsm hs; obtain ⟨k, n, ks⟩ := f; obtain ⟨sl, cap, rfl⟩ := slice_shape hrep; have HC : Hid (∀ v w, _ → Calls Tryz.prog 78 #[v] w _) := hck; have HU : Hid (SL w u l) := hu; obtain ⟨adL, cpL, rfl, hl1, hl2, -⟩ := hu; clear hck hcf
  go_enter Tryz.func41, Tryz.ntmps41
  go_wp2_with (first
    | (go_at_call 78
       refine (HC.out _ _ ((hrep.more _).more _)).mono ?_; rintro e w1 ⟨rfl, hb1⟩; have z1 := hb1.size; simp at z1; have q0 := below_keep hb1 (alloc_keep (blk_new w _) _); have q1 := below_keep hb1 (blk_new (w.alloc _) _); (rw [show (w.alloc _).heap.size = w.heap.size + 1 by simp] at q1); have B1 := below_join (below_more (below_more (Below.refl _ w) _) _) hb1; obtain ⟨k1, k2, k3, k4⟩ := blk2 q1; obtain ⟨a0, a1, a2, -⟩ := blk3 q0; have y0 : w.heap.size < w1.heap.size := lt_of_block q0; (have d1 : ¬ w.heap.size + 1 = w1.heap.size := by omega); (have d2 : ¬ w1.heap.size = w.heap.size + 1 := by omega)
       have d3 : w.heap.size + 1 < w1.heap.size := by omega)
    | (go_at_call 79
       refine (HI.out _ _ ((HU.out.up B1).up ((Below.refl _ _).alloc (Nat.le_refl _) _))).mono ?_; rintro e w2 ⟨rfl, hb2⟩; have r1 := below_keep hb2 (alloc_keep q1 _); have r0 := below_keep hb2 (alloc_keep q0 _); have B2 := below_join (below_more B1 _) hb2; have l1 := lt_of_block r1; have l0 := lt_of_block r0; clear k1 k2 k3 k4 a0 a1 a2; obtain ⟨a0, a1, a2, -⟩ := blk3 r0
       obtain ⟨k1, k2, k3, k4⟩ := blk2 r1)
    | (go_at_call 81
       refine (HPl.out _ _ (HU.out.up B2)).mono ?_; rintro e w3 ⟨rfl, hpm, hb3⟩; have HPM : Hid (PM w3 w2.heap.size l) := hpm; have s1 := below_keep hb3 r1; have s0 := below_keep hb3 r0; have B3 := below_join B2 hb3; have m1 := lt_of_block s1; have m0 := lt_of_block s0; clear k1 k2 k3 k4 a0 a1 a2 hpm; obtain ⟨a0, a1, a2, -⟩ := blk3 s0
       obtain ⟨k1, k2, k3, k4⟩ := blk2 s1)
    | (go_at_call 83
       refine (HTr.out w3.heap.size _ _ (hrep.up (below_more B3 _)) ⟨w2.heap.size, blk_new _ _, HPM.out.up ((Below.refl _ _).alloc (Nat.le_refl _) _)⟩).mono ?_; rintro e w4 ⟨rfl, hb4⟩; have t1 := below_keep hb4 (alloc_keep s1 _); have B4 := below_join (below_more B3 _) hb4; have n1 := lt_of_block t1; clear k1 k2 k3 k4 a0 a1 a2
       obtain ⟨k1, k2, k3, k4⟩ := blk2 t1)
    | fail)
  have f2 := set2 t1 (.int .i64 0) (.int .i64 0); (have b2 := (B4.setCell (p := ⟨w.heap.size + 1, 0, none⟩) (by simp) (.int .i64 0)).setCell (p := ⟨w.heap.size + 1, 1, none⟩) (by simp) (.int .i64 0)); (have hsz : ((w4.setCell ⟨w.heap.size + 1, 0, none⟩ (.int .i64 0)).setCell ⟨w.heap.size + 1, 1, none⟩ (.int .i64 0)).heap.size = w4.heap.size := by simp [World.setCell]); generalize World.setCell _ _ _ = F at f2 b2 hsz ⊢; clear k1 k2 k3 k4; obtain ⟨k1, k2, -⟩ := blk2 f2; (exact bodyPost_ret (v := .tuple #[.bool bb, .agg #[.int .i64 0, .int .i64 0]]) (by simp [results, Tryz.results41, go_sem, k1, k2]) rfl ⟨rfl, b2⟩)

theorem value_any (f : Fm) (l : List (List UInt8)) (hmx : ∀ t ∈ l, t.length ≤ maxLen) (v u : Value) (w : World) (hrep : Rep w (fun _ => True) f v) (hu : SL w u l) :
    Calls Tryz.prog 41 #[v, u] w fun e w' => e = .returned (.tuple #[.bool (decide ((vcode f l).1 = 0) && tv (fun t => decide (t ∈ l)) f), .agg #[.int .i64 (vcode f l).1, .int .i64 (vcode f l).2]]) ∧ Below w.heap.size w w' := by
  unfold vcode; by_cases hp : f.pcode.1 = 0
  · have hp' := (pcode_ok hp).2.2
    rw [if_pos hp]; by_cases hl : 1000 < l.length
    · rw [if_pos hl]
      exact value_many f l v u w hrep hu hp' hl
    · rw [if_neg hl]
      rcases hi : l.any (fun t => !isNm t) with _ | _
      · simp only [Bool.false_eq_true, if_false]
        (exact value_yes f l v u w hrep hu hp' (by omega) hmx hi)
      · simp only [if_true]
        (exact value_name f l v u w hrep hu hp' (by omega) hmx _ (if_pos hi))
  · rw [if_neg hp]
    have := value_bad f l v u w hrep hu f.pcode.1 f.pcode.2 hp rfl; rw [decide_eq_false hp]; exact this
end Go.Proofs.YtpmogojpdigbmabGreat
/- Walks: tables; the classes of Post's, one by one. -/
namespace Go.Proofs.YtpmogojpdigbmabGreat
open Go.RowKit

/-- A table as data. -/
structure Tb where
  n : Nat
  bits : List Bool

/-- A table that is none is not asked of its class. -/
def Tb.Ok (t : Tb) : Prop := t.n ≤ 4 ∧ t.bits.length = 2 ^ t.n

def TR (w : World) (t : Tb) (v : Value) : Prop := ∃ ad cap, v = .agg #[.int .i64 (t.n : Nat), .slice ad t.bits.length cap] ∧ BL w (.slice ad t.bits.length cap) t.bits
theorem TR.up {w w' : World} {t : Tb} {v : Value} (h : TR w t v) (hb : Below w.heap.size w w') : TR w' t v := by
  obtain ⟨ad, cap, h1, h2⟩ := h; exact ⟨ad, cap, h1, h2.up hb⟩

theorem Tb.Ok.len {t : Tb} (h : t.Ok) : 1 ≤ t.bits.length ∧ t.bits.length ≤ 16 := by
  obtain ⟨h1, h2⟩ := h; rw [h2]; (have : t.n = 0 ∨ t.n = 1 ∨ t.n = 2 ∨ t.n = 3 ∨ t.n = 4 := by omega)
  rcases this with h | h | h | h | h <;> rw [h] <;> decide

/-- Its cells. -/
theorem TR.cells {w : World} {t : Tb} {v : Value} (h : TR w t v) (hok : t.Ok) : ∃ g off cap, v = .agg #[.int .i64 (t.n : Nat), .slice (some ⟨g, off, none⟩) t.bits.length cap] ∧ t.bits.length ≤ cap ∧ ∀ j, j < t.bits.length → w.cell? ⟨g, off + j, none⟩ = some (.bool (t.bits.getD j false)) := by
  obtain ⟨ad, cap, rfl, ad', cap', h1, h2, h3, h4⟩ := h; simp only [Value.slice.injEq, true_and] at h1; obtain ⟨rfl, rfl⟩ := h1; have := hok.len; (obtain ⟨g, off, rfl, h5⟩ := h4 (fun e => by rw [e] at this; simp at this)); (refine ⟨g, off, cap, rfl, h2, fun j hj => h5 j _ ?_⟩); rw [List.getD_eq_getElem?_getD, List.getElem?_eq_getElem hj]; rfl

end Go.Proofs.YtpmogojpdigbmabGreat
/- Walks: lists of tables; tablesFault. -/
namespace Go.Proofs.YtpmogojpdigbmabGreat
open Go.RowKit

/-- A list of tables in memory, whatever they are. -/
def TQ (w : World) (v : Value) (ts : List (Int × List Bool)) : Prop := ∃ ad cap, v = .slice ad ts.length cap ∧ ts.length ≤ cap ∧ cap ≤ maxLen ∧ (ts ≠ [] → ∃ g off, ad = some ⟨g, off, none⟩ ∧ ∀ (j : Nat) (t : Int × List Bool), ts[j]? = some t → ∃ adB cpB, w.cell? ⟨g, off + j * 2, none⟩ = some (.int .i64 t.1) ∧ w.cell? ⟨g, off + j * 2 + 1, none⟩ = some (.slice adB t.2.length cpB) ∧ BL w (.slice adB t.2.length cpB) t.2)
theorem TQ.up {w w' : World} {v : Value} {ts : List (Int × List Bool)} (h : TQ w v ts) (hb : Below w.heap.size w w') : TQ w' v ts := by
  obtain ⟨ad, cap, h1, h2, h3, h4⟩ := h; (refine ⟨ad, cap, h1, h2, h3, fun hne => ?_⟩); obtain ⟨g, off, h5, h6⟩ := h4 hne; (refine ⟨g, off, h5, fun j t ht => ?_⟩); obtain ⟨adB, cpB, h7, h8, h9⟩ := h6 j t ht; exact ⟨adB, cpB, (hb.cell (p := ⟨g, off + j * 2, none⟩) (lt_of_cell h7)).trans h7, (hb.cell (p := ⟨g, off + j * 2 + 1, none⟩) (lt_of_cell h8)).trans h8, h9.up hb⟩

end Go.Proofs.YtpmogojpdigbmabGreat
/- Walks: Complete. -/
namespace Go.Proofs.YtpmogojpdigbmabGreat
open Go.RowKit

def raws (ts : List Tb) : List (Int × List Bool) := ts.map fun t => ((t.n : Int), t.bits)

theorem TQ.at {w : World} {v : Value} {ts : List Tb} (h : TQ w v (raws ts)) : ∃ ad cap, v = .slice ad ts.length cap ∧ ts.length ≤ cap ∧ cap ≤ maxLen ∧ (ts ≠ [] → ∃ g off, ad = some ⟨g, off, none⟩ ∧ ∀ (j : Nat) (t : Tb), ts[j]? = some t → ∃ adB cpB, w.cell? ⟨g, off + j * 2, none⟩ = some (.int .i64 (t.n : Nat)) ∧ w.cell? ⟨g, off + j * 2 + 1, none⟩ = some (.slice adB t.bits.length cpB) ∧ TR w t (.agg #[.int .i64 (t.n : Nat), .slice adB t.bits.length cpB])) := by
  obtain ⟨ad, cap, h1, h2, h3, h4⟩ := h; (have hl : (raws ts).length = ts.length := by simp [raws]); rw [hl] at h1 h2; (refine ⟨ad, cap, h1, h2, h3, fun hne => ?_⟩); (obtain ⟨g, off, h5, h6⟩ := h4 (by simpa [raws] using hne)); (refine ⟨g, off, h5, fun j t ht => ?_⟩); (obtain ⟨adB, cpB, h7, h8, h9⟩ := h6 j ((t.n : Int), t.bits) (by simp [raws, ht])); exact ⟨adB, cpB, h7, h8, adB, cpB, rfl, h9⟩

/-! The closure of Complete. -/
end Go.Proofs.YtpmogojpdigbmabGreat
/- Walks: the yardstick's True. -/
namespace Go.Proofs.YtpmogojpdigbmabGreat
open Go.RowKit Go.Sort

/-- A list of bools that is being made. -/
def KB (B : Nat) (w : World) (ad : Option Addr) (cap : Nat) (l : List Bool) : Prop := w.ownsRow B 4 1 (.slice ad l.length cap) l.length (l.map Value.bool)
theorem KB.up {B : Nat} {w w' : World} {ad : Option Addr} {cap : Nat} {l : List Bool} (h : KB B w ad cap l) (hb : Below w.heap.size w w') : KB B w' ad cap l := owns_up h hb
end Go.Proofs.YtpmogojpdigbmabGreat
/- Walks: the yardstick's PlainFault. -/
namespace Go.Proofs.YtpmogojpdigbmabGreat
open Go.RowKit Go.Sort

def pfirst : List Fm → Int × Int
  | [] => (0, 0)
  | f :: fs => if f.pcode.1 = 0 then pfirst fs else f.pcode

theorem pfirst_drop {fs : List Fm} {i : Nat} {f : Fm} (h : fs[i]? = some f) : pfirst (fs.drop i) = if f.pcode.1 = 0 then pfirst (fs.drop (i + 1)) else f.pcode := by
  have hi : i < fs.length := by
    rcases Nat.lt_or_ge i fs.length with h' | h'
    · exact h'
    · rw [List.getElem?_eq_none h'] at h; cases h
  rw [List.drop_eq_getElem_cons hi, pfirst]; rw [List.getElem?_eq_getElem hi] at h; rw [Option.some.inj h]

theorem mIdx_drop {l : List Fm} {i : Nat} {f : Fm} (h : l[i]? = some f) (a : Nat) : mIdx (l.drop i) a = if isM f.kind then (a, true) else mIdx (l.drop (i + 1)) (a + 1) := by
  have hi : i < l.length := by
    rcases Nat.lt_or_ge i l.length with h' | h'
    · exact h'
    · rw [List.getElem?_eq_none h'] at h; cases h
  rw [List.drop_eq_getElem_cons hi, mIdx]; rw [List.getElem?_eq_getElem hi] at h; rw [Option.some.inj h]

set_option maxHeartbeats 1000000 in
theorem mkF_any (c a : Int) (w : World) : Calls Tryz.prog 15 #[.int .i64 c, .int .i64 a] w fun e w' => e = .returned (.agg #[.int .i64 c, .int .i64 a]) ∧ Below w.heap.size w w' := by
  have B := below_more (Below.refl _ w) (.cells #[.int .i64 c, .int .i64 a] 34 (0, 0))
  go_enter Tryz.func15, Tryz.ntmps15
  go_wp2_with fail; (exact bodyPost_ret (v := .agg #[.int .i64 c, .int .i64 a]) (by simp [results, Tryz.results15, go_sem]) rfl ⟨rfl, B⟩)

theorem walk300 (f : Fm) (h : f.size ≤ 200) : walkL f 300 = allN f := by
  (rw [walkL_take, List.take_of_length_le (by rw [allN_len]; omega)])

set_option maxHeartbeats 4000000 in
theorem plainR_any (fs : List Fm) (hl : fs.length ≤ 1000) (v : Value) (w : World) (hv : FL w v fs) :
    Calls Tryz.prog 25 #[v] w fun e w' => e = .returned (.agg #[.int .i64 (pfirst fs).1, .int .i64 (pfirst fs).2]) ∧ Below w.heap.size w w' := by
  obtain ⟨ad, cap, rfl, h1, h2, h3⟩ := hv; (have H3 : Hid (fs ≠ [] → ∃ b off, ad = some ⟨b, off, none⟩ ∧ Reps w (fun _ => True) b off fs) := h3); (have hlI : (fs.length : Int) ≤ 1000 := by omega); have HT : Hid (pfirst fs = pfirst (fs.drop 0)) := rfl; generalize pfirst fs = tc at *; have q0 := blk_new w (.cells #[.int .i64 0, .int .i64 0] 34 (0, 0)); have B0 := below_more (Below.refl _ w) (.cells #[.int .i64 0, .int .i64 0] 34 (0, 0)); clear h3
  go_enter Tryz.func25, Tryz.ntmps25
  go_wp2_with fail
  go_loopg [3] fs.length (fun gk c wr => ∃ i, i ≤ fs.length ∧ gk = fs.length - i ∧ c = .int .i64 (i : Nat) ∧ Below w.heap.size w wr ∧ wr.heap[w.heap.size]? = some (.cells #[.int .i64 0, .int .i64 0] 34 (0, 0)) ∧ Hid (tc = pfirst (fs.drop i)))
  case atStart => exact ⟨0, by omega, by omega, rfl, B0, q0, HT⟩
  case round =>
    obtain ⟨i, hi, hg, rfl, hbr, q1, HW⟩ := hrel; have HG : Hid (gk = fs.length - i) := hg; clear hg HT; have z1 := lt_of_block q1; by_cases hlt : i < fs.length
    · obtain ⟨⟨k2, n2, ks2⟩, hki⟩ : ∃ f, fs[i]? = some f := ⟨_, List.getElem?_eq_getElem hlt⟩
      (obtain ⟨b, off, rfl, hrs⟩ := H3.out (fun e => by rw [e] at hlt; simp at hlt)); obtain ⟨sl2, cap2, g0, g1, g2, hrep2⟩ := (hrs.up hbr).at i k2 n2 ks2 hki; (have hltI : (i : Int) < (fs.length : Int) := by omega); (have hlc : (i : Int) < (cap : Int) := by omega); have HDr := HW.out; rw [pfirst_drop hki] at HDr; (have hrf := fun v (w : World) h => rfault_any (.mk k2 n2 ks2) v w h); have zb := lt_of_cell g0; clear hki hrs H3 HW; by_cases hc : (Fm.mk k2 n2 ks2).code.1 = 0
      · obtain ⟨s, hs⟩ := code_split _ hc
        have hcz := code_zero hc; rw [hcz] at hrf; have hsz := chk_size hs; (have hwk := fun v (w : World) h => walk_any (.mk k2 n2 ks2) v 300 w (by omega) h); rw [walk300 _ hsz] at hwk
        have hpc : (Fm.mk k2 n2 ks2).pcode = if (mIdx (allN (.mk k2 n2 ks2)) 0).2 then ((4 : Int), (((mIdx (allN (.mk k2 n2 ks2)) 0).1 : Nat) : Int)) else (0, 0) := by
          unfold Fm.pcode; rw [if_pos hc, modal_idx]
        (have hnl : (allN (.mk k2 n2 ks2)).length ≤ 200 := by rw [allN_len]; exact hsz); rw [hpc] at HDr; have HD : Hid (tc = _) := HDr; have HR : Hid (∀ v w, _ → Calls Tryz.prog 42 #[v] w _) := hrf; have HWk : Hid (∀ v w, _ → Calls Tryz.prog 43 _ w _) := hwk; clear hrf hwk HDr hpc hs hsz hcz hc; generalize allN (.mk k2 n2 ks2) = nodes at *
        go_wp2_with (first
          | (go_at_call 42
             refine (HR.out _ _ hrep2).mono ?_; rintro e w2 ⟨rfl, hb2⟩; have q2 := below_keep hb2 q1; have z2 := lt_of_block q2; have e0 := (hb2.cell (p := ⟨b, off + i * 3, none⟩) zb).trans g0; have e1 := (hb2.cell (p := ⟨b, off + i * 3 + 1, none⟩) zb).trans g1; have e2 := (hb2.cell (p := ⟨b, off + i * 3 + 2, none⟩) zb).trans g2; have zb2 := lt_of_cell e0; simp only at zb2
             have B2 := below_join hbr hb2)
          | (go_at_call 43
             refine (HWk.out _ _ ((hrep2.up hb2).more _)).mono ?_; rintro e w3 ⟨x, rfl, hlo, hb3⟩; obtain ⟨g, cp, rfl, hc1, hc2, hrs⟩ := hlo.reps; (have HS : Hid (Reps w3 (fun _ => True) g 0 nodes) := hrs); have q3 := below_keep hb3 (alloc_keep q2 _); have z3 := lt_of_block q3; have B3 := below_join (below_more B2 _) hb3
             clear hlo hrs)
          | fail)
        (have hNI : (nodes.length : Int) ≤ 200 := by omega)
        go_loopg [6] nodes.length (fun gk c wz => ∃ j, j ≤ nodes.length ∧ gk = nodes.length - j ∧ c = .int .i64 (j : Nat) ∧ Below w3.heap.size w3 wz ∧ Hid (mIdx nodes 0 = mIdx (nodes.drop j) j))
        case atStart => exact ⟨0, by omega, by omega, rfl, Below.refl _ _, by show _ = _; rfl⟩
        case round =>
          obtain ⟨j, hj, hg2, rfl, hbz, HY⟩ := hrel; have HG2 : Hid (gk = nodes.length - j) := hg2; clear hg2 e0 e1 e2 g0 g1 g2; have q4 := below_keep hbz q3; have z4 := lt_of_block q4; have B4 := below_join B3 hbz; by_cases hjl : j < nodes.length
          · obtain ⟨⟨k3, n3, ks3⟩, hkj⟩ : ∃ f, nodes[j]? = some f := ⟨_, List.getElem?_eq_getElem hjl⟩
            obtain ⟨sl3, cap3, p0, p1, p2, -⟩ := (HS.out.up hbz).at j k3 n3 ks3 hkj; rw [Nat.zero_add] at p0 p1 p2; (have hjI : (j : Int) < (nodes.length : Int) := by omega); (have hjc : (j : Int) < (cp : Int) := by omega); have hY := HY.out; rw [mIdx_drop hkj] at hY; have hisM : isM (Fm.mk k3 n3 ks3).kind = (decide (k3 = 8) || decide (k3 = 9)) := rfl; rw [hisM] at hY; clear hkj HY hisM p1 p2; by_cases h8 : k3 = 8 ∨ k3 = 9
            · have hb : (decide (k3 = 8) || decide (k3 = 9)) = true := by simpa using h8
              rw [hb] at hY
              have HF : Hid (tc = (4, ((j : Nat) : Int))) := by
                show _ = _; rw [HD.out, hY]; rfl
              (have f2 := fun (w5 : World) (h : w5.heap[w.heap.size]? = some (.cells #[.int .i64 0, .int .i64 0] 34 (0, 0))) => set2 h (.int .i64 4) (.int .i64 (j : Nat))); (have HFm : Hid (∀ w, Calls Tryz.prog 15 #[.int .i64 4, .int .i64 (j : Nat)] w _) := fun w => mkF_any 4 (j : Nat) w); clear hY hb HD; (have h9 : k3 = 8 ∨ (¬ k3 = 8 ∧ k3 = 9) := by omega)
              rcases h9 with rfl | ⟨h8', rfl⟩
              all_goals
                go_wp2_with (first
                  | (go_at_call 15
                     refine (HFm.out _).mono ?_; rintro e w5 ⟨rfl, hb5⟩; have q5 := below_keep hb5 q4; have B5 := below_join B4 hb5
                     obtain ⟨k1, k2', k3', k4⟩ := blk2 q5)
                  | fail)
                have f3 := f2 _ q5; (have b2 := (B5.setCell (p := ⟨w.heap.size, 0, none⟩) (by simp) (.int .i64 4)).setCell (p := ⟨w.heap.size, 1, none⟩) (by simp) (.int .i64 (j : Nat))); generalize World.setCell _ _ _ = F at f3 b2 ⊢; clear k1 k2' k3' k4; obtain ⟨k1, k2', -⟩ := blk2 f3; (exact bodyPost_ret (v := .agg #[.int .i64 4, .int .i64 (j : Nat)]) (by simp [results, Tryz.results25, go_sem, k1, k2']) rfl ⟨by rw [HF.out], b2⟩)
            · have hb : (decide (k3 = 8) || decide (k3 = 9)) = false := by simpa using h8
              rw [hb] at hY; have HN : Hid (mIdx nodes 0 = mIdx (nodes.drop (j + 1)) (j + 1)) := hY; (have h8' : (k3 == 8) = false := by simp; omega); (have h9' : (k3 == 9) = false := by simp; omega); clear hY hb h8; go_wp2_with fail
              go_roundg (nodes.length - (j + 1))
              case measure => have := HG2.out; omega
              case rel => exact ⟨j + 1, by omega, rfl, by go_num, hbz, HN⟩
          · have HN : Hid (tc = pfirst (fs.drop (i + 1))) := by
              show _ = _; (rw [HD.out, HY.out, List.drop_of_length_le (by omega), mIdx]); rfl
            (have hge : ¬ (j : Int) < (nodes.length : Int) := by omega); clear HY HD; go_wp2_with fail
            go_roundg (fs.length - (i + 1))
            case measure => have := HG.out; omega
            case rel => exact ⟨i + 1, by omega, rfl, by go_num, B4, q4, HN⟩
      · have hpc : (Fm.mk k2 n2 ks2).pcode = (Fm.mk k2 n2 ks2).code := by unfold Fm.pcode; rw [if_neg hc]
        rw [hpc] at HDr; rw [if_neg hc] at HDr; have HD : Hid (tc = _) := HDr; generalize (Fm.mk k2 n2 ks2).code = cd at *; obtain ⟨c, a⟩ := cd; (have hne' : (c != 0) = true := by simpa using hc); have HR : Hid (∀ v w, _ → Calls Tryz.prog 42 #[v] w _) := hrf; clear hrf HDr hpc hc
        go_wp2_with (first
          | (go_at_call 42
             refine (HR.out _ _ hrep2).mono ?_; rintro e w2 ⟨rfl, hb2⟩; have q2 := below_keep hb2 q1; have z2 := lt_of_block q2; (have d1 : ¬ w.heap.size = w2.heap.size := by omega); (have d2 : ¬ w2.heap.size = w.heap.size := by omega); obtain ⟨k1, k2', k3', k4⟩ := blk2 q2
             have B2 := below_join hbr hb2)
          | fail)
        have f3 := set2 q2 (.int .i64 c) (.int .i64 a); (have b2 := (B2.setCell (p := ⟨w.heap.size, 0, none⟩) (by simp) (.int .i64 c)).setCell (p := ⟨w.heap.size, 1, none⟩) (by simp) (.int .i64 a)); (have hsz : ((w2.setCell ⟨w.heap.size, 0, none⟩ (.int .i64 c)).setCell ⟨w.heap.size, 1, none⟩ (.int .i64 a)).heap.size = w2.heap.size := by simp [World.setCell]); generalize World.setCell _ _ _ = F at f3 b2 hsz ⊢; clear k1 k2' k3' k4; obtain ⟨k1, k2', -⟩ := blk2 f3; (have d4 : w.heap.size < F.heap.size := by omega); (exact bodyPost_ret (v := .agg #[.int .i64 c, .int .i64 a]) (by simp [results, Tryz.results25, go_sem, k1, k2', d4]) rfl ⟨by rw [HD.out], b2.alloc (by omega) _⟩)
    · have HF : Hid (tc = (0, 0)) := by
        show _ = _; (rw [HW.out, List.drop_of_length_le (by omega), pfirst])
      (have hge : ¬ (i : Int) < (fs.length : Int) := by omega); have f2 := set2 q1 (.int .i64 0) (.int .i64 0); (have b2 := (hbr.setCell (p := ⟨w.heap.size, 0, none⟩) (by simp) (.int .i64 0)).setCell (p := ⟨w.heap.size, 1, none⟩) (by simp) (.int .i64 0)); obtain ⟨k1, k2, k3, k4⟩ := blk2 q1; clear HW H3; go_wp2_with fail; generalize World.setCell _ _ _ = F at f2 b2 ⊢; clear k1 k2 k3 k4; obtain ⟨k1, k2, -⟩ := blk2 f2; (exact bodyPost_ret (v := .agg #[.int .i64 0, .int .i64 0]) (by simp [results, Tryz.results25, go_sem, k1, k2]) rfl ⟨by rw [HF.out], b2⟩)
end Go.Proofs.YtpmogojpdigbmabGreat
/- Walks: the opposite of a formula. -/
namespace Go.Proofs.YtpmogojpdigbmabGreat
open Go.RowKit Go.Sort

set_option maxHeartbeats 1000000 in
theorem bothP_any (ok : Nat → Prop) (k : Int) (f g : Fm) (v u : Value) (w : World) (ho : ∀ b, w.heap.size ≤ b → ok b) (hv : Rep w ok f v) (hu : Rep w ok g u) :
    Calls Tryz.prog 30 #[.int .i64 k, v, u] w fun e w' => ∃ x, e = .returned x ∧ Rep w' ok (.mk k ⟨#[]⟩ [f, g]) x ∧ Below w.heap.size w w' := by
  obtain ⟨k1, n1, ks1⟩ := f; obtain ⟨k2, n2, ks2⟩ := g; obtain ⟨sl1, cp1, rfl⟩ := slice_shape hv; obtain ⟨sl2, cp2, rfl⟩ := slice_shape hu; have HV : Hid (Rep w ok (.mk k1 n1 ks1) (.agg #[.int .i64 k1, .string n1, .slice sl1 ks1.length cp1])) := hv; have HU : Hid (Rep w ok (.mk k2 n2 ks2) (.agg #[.int .i64 k2, .string n2, .slice sl2 ks2.length cp2])) := hu; have HO : Hid (∀ b, w.heap.size ≤ b → ok b) := ho; clear hv hu ho
  go_enter Tryz.func30, Tryz.ntmps30
  go_wp2_with fail; have q := blk_new (((w.alloc (.cells #[.int .i64 k1, .string n1, .slice sl1 ks1.length cp1] 24 (0, 0))).alloc (.cells #[.int .i64 k2, .string n2, .slice sl2 ks2.length cp2] 24 (0, 0))).alloc (.cells #[.int .i64 k, .string ⟨#[]⟩, .slice (some ⟨w.heap.size + 1 + 1 + 1, 0, none⟩) 2 2] 24 (0, 0))) (.cells #[.int .i64 k1, .string n1, .slice sl1 ks1.length cp1, .int .i64 k2, .string n2, .slice sl2 ks2.length cp2] 24 (0, 0)); (rw [show (((w.alloc (.cells #[.int .i64 k1, .string n1, .slice sl1 ks1.length cp1] 24 (0, 0))).alloc (.cells #[.int .i64 k2, .string n2, .slice sl2 ks2.length cp2] 24 (0, 0))).alloc (.cells #[.int .i64 k, .string ⟨#[]⟩, .slice (some ⟨w.heap.size + 1 + 1 + 1, 0, none⟩) 2 2] 24 (0, 0))).heap.size = w.heap.size + 1 + 1 + 1 by simp] at q); have B := below_more (below_more (below_more (below_more (Below.refl _ w) (.cells #[.int .i64 k1, .string n1, .slice sl1 ks1.length cp1] 24 (0, 0))) (.cells #[.int .i64 k2, .string n2, .slice sl2 ks2.length cp2] 24 (0, 0))) (.cells #[.int .i64 k, .string ⟨#[]⟩, .slice (some ⟨w.heap.size + 1 + 1 + 1, 0, none⟩) 2 2] 24 (0, 0))) (.cells #[.int .i64 k1, .string n1, .slice sl1 ks1.length cp1, .int .i64 k2, .string n2, .slice sl2 ks2.length cp2] 24 (0, 0)); (exact bodyPost_ret (v := .agg #[.int .i64 k, .string ⟨#[]⟩, .slice (some ⟨w.heap.size + 1 + 1 + 1, 0, none⟩) 2 2]) (by simp [results, Tryz.results30, go_sem]) rfl ⟨_, rfl, Rep.two q (HO.out _ (by omega)) (HV.out.up' B) (HU.out.up' B), B⟩)

set_option maxHeartbeats 1000000 in
theorem ofP_any (ok : Nat → Prop) (k : Int) (f : Fm) (v : Value) (w : World) (ho : ∀ b, w.heap.size ≤ b → ok b) (hv : Rep w ok f v) :
    Calls Tryz.prog 29 #[.int .i64 k, v] w fun e w' => ∃ x, e = .returned x ∧ Rep w' ok (.mk k ⟨#[]⟩ [f]) x ∧ Below w.heap.size w w' := by
  obtain ⟨k1, n1, ks1⟩ := f; obtain ⟨sl1, cp1, rfl⟩ := slice_shape hv; have HV : Hid (Rep w ok (.mk k1 n1 ks1) (.agg #[.int .i64 k1, .string n1, .slice sl1 ks1.length cp1])) := hv; have HO : Hid (∀ b, w.heap.size ≤ b → ok b) := ho; clear hv ho
  go_enter Tryz.func29, Tryz.ntmps29
  go_wp2_with fail; have q := blk_new ((w.alloc (.cells #[.int .i64 k1, .string n1, .slice sl1 ks1.length cp1] 24 (0, 0))).alloc (.cells #[.int .i64 k, .string ⟨#[]⟩, .slice (some ⟨w.heap.size + 1 + 1, 0, none⟩) 1 1] 24 (0, 0))) (.cells #[.int .i64 k1, .string n1, .slice sl1 ks1.length cp1] 24 (0, 0)); (rw [show ((w.alloc (.cells #[.int .i64 k1, .string n1, .slice sl1 ks1.length cp1] 24 (0, 0))).alloc (.cells #[.int .i64 k, .string ⟨#[]⟩, .slice (some ⟨w.heap.size + 1 + 1, 0, none⟩) 1 1] 24 (0, 0))).heap.size = w.heap.size + 1 + 1 by simp] at q); have B := below_more (below_more (below_more (Below.refl _ w) (.cells #[.int .i64 k1, .string n1, .slice sl1 ks1.length cp1] 24 (0, 0))) (.cells #[.int .i64 k, .string ⟨#[]⟩, .slice (some ⟨w.heap.size + 1 + 1, 0, none⟩) 1 1] 24 (0, 0))) (.cells #[.int .i64 k1, .string n1, .slice sl1 ks1.length cp1] 24 (0, 0)); (exact bodyPost_ret (v := .agg #[.int .i64 k, .string ⟨#[]⟩, .slice (some ⟨w.heap.size + 1 + 1, 0, none⟩) 1 1]) (by simp [results, Tryz.results29, go_sem]) rfl ⟨_, rfl, Rep.one q (HO.out _ (by omega)) (HV.out.up' B), B⟩)

end Go.Proofs.YtpmogojpdigbmabGreat
