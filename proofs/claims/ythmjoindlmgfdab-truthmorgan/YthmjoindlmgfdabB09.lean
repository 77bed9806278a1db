/- Texts of one proof, one behind the other: Tr11, TC1, TC2, TC3. -/
import Derived.Test.YthmjoindlmgfdabB08
/- Walks: Value. -/
namespace Go.Proofs.Ythmjoindlmgfdab
open Go.RowKit Go.Sort

/-- What Value says of its arguments. -/
def vcode (f : Fm) (l : List (List UInt8)) : Int × Int := if f.pcode.1 = 0 then (if 1000 < l.length then (2, 0) else if l.any (fun t => !isNm t) then (8, ((l.findIdx (fun t => !isNm t) : Nat) : Int)) else (0, 0)) else f.pcode

set_option maxHeartbeats 2000000 in
theorem value_bad (f : Fm) (l : List (List UInt8)) (v u : Value) (w : World) (hrep : Rep w (fun _ => True) f v) (hu : SL w u l) (c a : Int) (hc : c ≠ 0) (hcf : f.pcode = (c, a)) :
    Calls Try.prog 25 #[v, u] w fun e w' => e = .returned (.tuple #[.bool false, .agg #[.int .i64 c, .int .i64 a]]) ∧ Below w.heap.size w w' := by
  have hck := fun v (w : World) h => plainFault_any f v w h
  rw [hcf] at hck
  have hne' : (c != 0) = true := by simpa using hc
  obtain ⟨k, n, ks⟩ := f
  obtain ⟨sl, cap, rfl⟩ := slice_shape hrep
  have HC : Hid (∀ v w, _ → Calls Try.prog 34 #[v] w _) := hck
  have HU : Hid (SL w u l) := hu
  obtain ⟨adL, cpL, rfl, hl1, hl2, -⟩ := hu
  clear hck hcf
  go_enter Try.func25, Try.ntmps25
  go_wp2_with (first
    | (go_at_call 34
       refine (HC.out _ _ ((hrep.more _).more _)).mono ?_
       rintro e w1 ⟨rfl, hb1⟩
       have z1 := hb1.size
       simp at z1
       have q0 := below_keep hb1 (alloc_keep (blk_new w _) _)
       have q1 := below_keep hb1 (blk_new (w.alloc _) _)
       rw [show (w.alloc _).heap.size = w.heap.size + 1 by simp] at q1
       have B1 := below_join (below_more (below_more (Below.refl _ w) _) _) hb1
       obtain ⟨k1, k2, k3, k4⟩ := blk2 q1
       obtain ⟨a0, a1, a2, -⟩ := blk3 q0
       have y0 : w.heap.size < w1.heap.size := lt_of_block q0
       have d1 : ¬ w.heap.size + 1 = w1.heap.size := by omega
       have d2 : ¬ w1.heap.size = w.heap.size + 1 := by omega
       have d3 : w.heap.size + 1 < w1.heap.size := by omega)
    | fail)
  go_region
  all_goals go_wp2
  have f2 := set2 q1 (.int .i64 c) (.int .i64 a)
  have b2 := (B1.setCell (p := ⟨w.heap.size + 1, 0, none⟩) (by simp) (.int .i64 c)).setCell (p := ⟨w.heap.size + 1, 1, none⟩) (by simp) (.int .i64 a)
  have hsz : ((w1.setCell ⟨w.heap.size + 1, 0, none⟩ (.int .i64 c)).setCell ⟨w.heap.size + 1, 1, none⟩ (.int .i64 a)).heap.size = w1.heap.size := by simp [World.setCell]
  generalize World.setCell _ _ _ = F at f2 b2 hsz ⊢
  clear k1 k2 k3 k4
  obtain ⟨k1, k2, -⟩ := blk2 f2
  have d4 : w.heap.size + 1 < F.heap.size := by omega
  exact bodyPost_ret (v := .tuple #[.bool false, .agg #[.int .i64 c, .int .i64 a]]) (by simp [results, Try.results25, go_sem, k1, k2, d4]) rfl ⟨rfl, (b2.alloc (by omega) _).drew⟩

set_option maxHeartbeats 2000000 in
theorem value_many (f : Fm) (l : List (List UInt8)) (v u : Value) (w : World) (hrep : Rep w (fun _ => True) f v) (hu : SL w u l) (hcf : f.pcode = (0, 0)) (hl : 1000 < l.length) :
    Calls Try.prog 25 #[v, u] w fun e w' => e = .returned (.tuple #[.bool false, .agg #[.int .i64 2, .int .i64 0]]) ∧ Below w.heap.size w w' := by
  have hck := fun v (w : World) h => plainFault_any f v w h
  rw [hcf] at hck
  have hlI : (1000 : Int) < (l.length : Int) := by omega
  obtain ⟨k, n, ks⟩ := f
  obtain ⟨sl, cap, rfl⟩ := slice_shape hrep
  have HC : Hid (∀ v w, _ → Calls Try.prog 34 #[v] w _) := hck
  have HU : Hid (SL w u l) := hu
  obtain ⟨adL, cpL, rfl, hl1, hl2, -⟩ := hu
  clear hck hcf
  go_enter Try.func25, Try.ntmps25
  go_wp2_with (first
    | (go_at_call 34
       refine (HC.out _ _ ((hrep.more _).more _)).mono ?_
       rintro e w1 ⟨rfl, hb1⟩
       have z1 := hb1.size
       simp at z1
       have q0 := below_keep hb1 (alloc_keep (blk_new w _) _)
       have q1 := below_keep hb1 (blk_new (w.alloc _) _)
       rw [show (w.alloc _).heap.size = w.heap.size + 1 by simp] at q1
       have B1 := below_join (below_more (below_more (Below.refl _ w) _) _) hb1
       obtain ⟨k1, k2, k3, k4⟩ := blk2 q1
       obtain ⟨a0, a1, a2, -⟩ := blk3 q0
       have y0 : w.heap.size < w1.heap.size := lt_of_block q0
       have d1 : ¬ w.heap.size + 1 = w1.heap.size := by omega
       have d2 : ¬ w1.heap.size = w.heap.size + 1 := by omega
       have d3 : w.heap.size + 1 < w1.heap.size := by omega)
    | fail)
  have f2 := set2 q1 (.int .i64 2) (.int .i64 0)
  have b2 := (B1.setCell (p := ⟨w.heap.size + 1, 0, none⟩) (by simp) (.int .i64 2)).setCell (p := ⟨w.heap.size + 1, 1, none⟩) (by simp) (.int .i64 0)
  have hsz : ((w1.setCell ⟨w.heap.size + 1, 0, none⟩ (.int .i64 2)).setCell ⟨w.heap.size + 1, 1, none⟩ (.int .i64 0)).heap.size = w1.heap.size := by simp [World.setCell]
  generalize World.setCell _ _ _ = F at f2 b2 hsz ⊢
  clear k1 k2 k3 k4
  obtain ⟨k1, k2, -⟩ := blk2 f2
  have d4 : w.heap.size + 1 < F.heap.size := by omega
  exact bodyPost_ret (v := .tuple #[.bool false, .agg #[.int .i64 2, .int .i64 0]]) (by simp [results, Try.results25, go_sem, k1, k2, d4]) rfl ⟨rfl, b2.alloc (by omega) _⟩

set_option maxHeartbeats 2000000 in
theorem value_name (f : Fm) (l : List (List UInt8)) (v u : Value) (w : World) (hrep : Rep w (fun _ => True) f v) (hu : SL w u l) (hcf : f.pcode = (0, 0)) (hl : l.length ≤ 1000) (hmx : ∀ t ∈ l, t.length ≤ maxLen) (i : Nat) (hi : fIdxP (fun t => !isNm t) l = ((i : Nat) : Int)) :
    Calls Try.prog 25 #[v, u] w fun e w' => e = .returned (.tuple #[.bool false, .agg #[.int .i64 8, .int .i64 (i : Nat)]]) ∧ Below w.heap.size w w' := by
  have hck := fun v (w : World) h => plainFault_any f v w h
  rw [hcf] at hck
  have hix := fun v (w : World) h => idxFunc_str predNoName l hmx v w h trivial
  rw [hi] at hix
  have HI : Hid (∀ v w, SL w v l → Calls Try.prog 42 #[v, .func (.func 43) #[] #[]] w _) := hix
  have hlI : (l.length : Int) ≤ 1000 := by omega
  clear hix hi
  obtain ⟨k, n, ks⟩ := f
  obtain ⟨sl, cap, rfl⟩ := slice_shape hrep
  have HC : Hid (∀ v w, _ → Calls Try.prog 34 #[v] w _) := hck
  have HU : Hid (SL w u l) := hu
  obtain ⟨adL, cpL, rfl, hl1, hl2, -⟩ := hu
  clear hck hcf
  go_enter Try.func25, Try.ntmps25
  go_wp2_with (first
    | (go_at_call 34
       refine (HC.out _ _ ((hrep.more _).more _)).mono ?_
       rintro e w1 ⟨rfl, hb1⟩
       have z1 := hb1.size
       simp at z1
       have q0 := below_keep hb1 (alloc_keep (blk_new w _) _)
       have q1 := below_keep hb1 (blk_new (w.alloc _) _)
       rw [show (w.alloc _).heap.size = w.heap.size + 1 by simp] at q1
       have B1 := below_join (below_more (below_more (Below.refl _ w) _) _) hb1
       obtain ⟨k1, k2, k3, k4⟩ := blk2 q1
       obtain ⟨a0, a1, a2, -⟩ := blk3 q0
       have y0 : w.heap.size < w1.heap.size := lt_of_block q0
       have d1 : ¬ w.heap.size + 1 = w1.heap.size := by omega
       have d2 : ¬ w1.heap.size = w.heap.size + 1 := by omega
       have d3 : w.heap.size + 1 < w1.heap.size := by omega)
    | (go_at_call 42
       refine (HI.out _ _ ((HU.out.up B1).up ((Below.refl _ _).alloc (Nat.le_refl _) _))).mono ?_
       rintro e w2 ⟨rfl, hb2⟩
       have r1 := below_keep hb2 (alloc_keep q1 _)
       have r0 := below_keep hb2 (alloc_keep q0 _)
       have B2 := below_join (below_more B1 _) hb2
       have l1 := lt_of_block r1
       have l0 := lt_of_block r0
       clear k1 k2 k3 k4 a0 a1 a2
       obtain ⟨a0, a1, a2, -⟩ := blk3 r0
       obtain ⟨k1, k2, k3, k4⟩ := blk2 r1)
    | fail)
  have f2 := set2 r1 (.int .i64 8) (.int .i64 (i : Nat))
  have b2 := (B2.setCell (p := ⟨w.heap.size + 1, 0, none⟩) (by simp) (.int .i64 8)).setCell (p := ⟨w.heap.size + 1, 1, none⟩) (by simp) (.int .i64 (i : Nat))
  have hsz : ((w2.setCell ⟨w.heap.size + 1, 0, none⟩ (.int .i64 8)).setCell ⟨w.heap.size + 1, 1, none⟩ (.int .i64 (i : Nat))).heap.size = w2.heap.size := by simp [World.setCell]
  generalize World.setCell _ _ _ = F at f2 b2 hsz ⊢
  clear k1 k2 k3 k4
  obtain ⟨k1, k2, -⟩ := blk2 f2
  exact bodyPost_ret (v := .tuple #[.bool false, .agg #[.int .i64 8, .int .i64 (i : Nat)]]) (by simp [results, Try.results25, go_sem, k1, k2]) rfl ⟨rfl, b2⟩

set_option maxHeartbeats 2000000 in
theorem value_yes (f : Fm) (l : List (List UInt8)) (v u : Value) (w : World) (hrep : Rep w (fun _ => True) f v) (hu : SL w u l) (hcf : f.pcode = (0, 0)) (hl : l.length ≤ 1000) (hmx : ∀ t ∈ l, t.length ≤ maxLen) (hi : l.any (fun t => !isNm t) = false) :
    Calls Try.prog 25 #[v, u] w fun e w' => e = .returned (.tuple #[.bool (tv (fun t => decide (t ∈ l)) f), .agg #[.int .i64 0, .int .i64 0]]) ∧ Below w.heap.size w w' := by
  have hck := fun v (w : World) h => plainFault_any f v w h
  rw [hcf] at hck
  have hix := fun v (w : World) h => idxFunc_str predNoName l hmx v w h trivial
  have hi1 : fIdxP (fun t => !isNm t) l = -1 := by unfold fIdxP; rw [hi]; rfl
  rw [hi1] at hix
  have hsm : ∀ t ∈ l, t.length ≤ 8 := fun t ht => by
    have := List.any_eq_false.1 hi t ht
    have := isNm_bd (l := t) (by simpa using this)
    omega
  obtain ⟨⟨s, hs⟩, hpl, -⟩ := pcode_ok (f := f) (by rw [hcf])
  have htr := fun cb v (w : World) h o => isTrue_any (asksV cb l) f v w (fine_of_chk f 0 s hs) hpl h o
  generalize tv (fun t => decide (t ∈ l)) f = bb at *
  have HI : Hid (∀ v w, SL w v l → Calls Try.prog 42 #[v, .func (.func 43) #[] #[]] w _) := hix
  have HPl : Hid (∀ v w, SL w v l → Calls Try.prog 44 #[v] w _) := fun v w h => placesOf_any l hl hsm v w h
  have HTr : Hid (∀ cb v w, Rep w (fun _ => True) f v → OkV cb l w → Calls Try.prog 46 _ w _) := htr
  have hmf : ∀ (fn : Fn) (first cap : Array Value) (w : World), (Instr.makeFunc fn first cap).run Try.prog w = .ok (.func fn first cap) w := fun _ _ _ _ => rfl
  have hlI : (l.length : Int) ≤ 1000 := by omega
  clear hix hi hi1 htr hsm hs
  obtain ⟨k, n, ks⟩ := f
  obtain ⟨sl, cap, rfl⟩ := slice_shape hrep
  have HC : Hid (∀ v w, _ → Calls Try.prog 34 #[v] w _) := hck
  have HU : Hid (SL w u l) := hu
  obtain ⟨adL, cpL, rfl, hl1, hl2, -⟩ := hu
  clear hck hcf
  go_enter Try.func25, Try.ntmps25
  go_wp2_with (first
    | (go_at_call 34
       refine (HC.out _ _ ((hrep.more _).more _)).mono ?_
       rintro e w1 ⟨rfl, hb1⟩
       have z1 := hb1.size
       simp at z1
       have q0 := below_keep hb1 (alloc_keep (blk_new w _) _)
       have q1 := below_keep hb1 (blk_new (w.alloc _) _)
       rw [show (w.alloc _).heap.size = w.heap.size + 1 by simp] at q1
       have B1 := below_join (below_more (below_more (Below.refl _ w) _) _) hb1
       obtain ⟨k1, k2, k3, k4⟩ := blk2 q1
       obtain ⟨a0, a1, a2, -⟩ := blk3 q0
       have y0 : w.heap.size < w1.heap.size := lt_of_block q0
       have d1 : ¬ w.heap.size + 1 = w1.heap.size := by omega
       have d2 : ¬ w1.heap.size = w.heap.size + 1 := by omega
       have d3 : w.heap.size + 1 < w1.heap.size := by omega)
    | (go_at_call 42
       refine (HI.out _ _ ((HU.out.up B1).up ((Below.refl _ _).alloc (Nat.le_refl _) _))).mono ?_
       rintro e w2 ⟨rfl, hb2⟩
       have r1 := below_keep hb2 (alloc_keep q1 _)
       have r0 := below_keep hb2 (alloc_keep q0 _)
       have B2 := below_join (below_more B1 _) hb2
       have l1 := lt_of_block r1
       have l0 := lt_of_block r0
       clear k1 k2 k3 k4 a0 a1 a2
       obtain ⟨a0, a1, a2, -⟩ := blk3 r0
       obtain ⟨k1, k2, k3, k4⟩ := blk2 r1)
    | (go_at_call 44
       refine (HPl.out _ _ (HU.out.up B2)).mono ?_
       rintro e w3 ⟨rfl, hpm, hb3⟩
       have HPM : Hid (PM w3 w2.heap.size l) := hpm
       have s1 := below_keep hb3 r1
       have s0 := below_keep hb3 r0
       have B3 := below_join B2 hb3
       have m1 := lt_of_block s1
       have m0 := lt_of_block s0
       clear k1 k2 k3 k4 a0 a1 a2 hpm
       obtain ⟨a0, a1, a2, -⟩ := blk3 s0
       obtain ⟨k1, k2, k3, k4⟩ := blk2 s1)
    | (go_at_call 46
       refine (HTr.out w3.heap.size _ _ (hrep.up (below_more B3 _)) ⟨w2.heap.size, blk_new _ _, HPM.out.up ((Below.refl _ _).alloc (Nat.le_refl _) _)⟩).mono ?_
       rintro e w4 ⟨rfl, hb4⟩
       have t1 := below_keep hb4 (alloc_keep s1 _)
       have B4 := below_join (below_more B3 _) hb4
       have n1 := lt_of_block t1
       clear k1 k2 k3 k4 a0 a1 a2
       obtain ⟨k1, k2, k3, k4⟩ := blk2 t1)
    | fail)
  have f2 := set2 t1 (.int .i64 0) (.int .i64 0)
  have b2 := (B4.setCell (p := ⟨w.heap.size + 1, 0, none⟩) (by simp) (.int .i64 0)).setCell (p := ⟨w.heap.size + 1, 1, none⟩) (by simp) (.int .i64 0)
  have hsz : ((w4.setCell ⟨w.heap.size + 1, 0, none⟩ (.int .i64 0)).setCell ⟨w.heap.size + 1, 1, none⟩ (.int .i64 0)).heap.size = w4.heap.size := by simp [World.setCell]
  generalize World.setCell _ _ _ = F at f2 b2 hsz ⊢
  clear k1 k2 k3 k4
  obtain ⟨k1, k2, -⟩ := blk2 f2
  exact bodyPost_ret (v := .tuple #[.bool bb, .agg #[.int .i64 0, .int .i64 0]]) (by simp [results, Try.results25, go_sem, k1, k2]) rfl ⟨rfl, b2⟩

theorem value_any (f : Fm) (l : List (List UInt8)) (hmx : ∀ t ∈ l, t.length ≤ maxLen) (v u : Value) (w : World) (hrep : Rep w (fun _ => True) f v) (hu : SL w u l) :
    Calls Try.prog 25 #[v, u] w fun e w' => e = .returned (.tuple #[.bool (decide ((vcode f l).1 = 0) && tv (fun t => decide (t ∈ l)) f), .agg #[.int .i64 (vcode f l).1, .int .i64 (vcode f l).2]]) ∧ Below w.heap.size w w' := by
  unfold vcode
  by_cases hp : f.pcode.1 = 0
  · have hp' := (pcode_ok hp).2.2
    rw [if_pos hp]
    by_cases hl : 1000 < l.length
    · rw [if_pos hl]
      exact value_many f l v u w hrep hu hp' hl
    · rw [if_neg hl]
      rcases hi : l.any (fun t => !isNm t) with _ | _
      · simp only [Bool.false_eq_true, if_false]
        exact value_yes f l v u w hrep hu hp' (by omega) hmx hi
      · simp only [if_true]
        exact value_name f l v u w hrep hu hp' (by omega) hmx _ (if_pos hi)
  · rw [if_neg hp]
    have := value_bad f l v u w hrep hu f.pcode.1 f.pcode.2 hp rfl
    rw [decide_eq_false hp]
    exact this
end Go.Proofs.Ythmjoindlmgfdab
/- Walks: tables; the classes of Post's, one by one. -/
namespace Go.Proofs.Ythmjoindlmgfdab
open Go.RowKit

/-- A table as data. -/
structure Tb where
  n : Nat
  bits : List Bool

/-- A table that is none is not asked of its class. -/
def Tb.Ok (t : Tb) : Prop := t.n ≤ 4 ∧ t.bits.length = 2 ^ t.n

def TR (w : World) (t : Tb) (v : Value) : Prop := ∃ ad cap, v = .agg #[.int .i64 (t.n : Nat), .slice ad t.bits.length cap] ∧ BL w (.slice ad t.bits.length cap) t.bits
theorem TR.up {w w' : World} {t : Tb} {v : Value} (h : TR w t v) (hb : Below w.heap.size w w') : TR w' t v := by
  obtain ⟨ad, cap, h1, h2⟩ := h
  exact ⟨ad, cap, h1, h2.up hb⟩

def cls0 (l : List Bool) : Bool := !l.getD 0 false
def cls1 (l : List Bool) : Bool := l.getD (l.length - 1) false
def cls2 (l : List Bool) : Bool := (List.range l.length).all fun k => l.getD k false != l.getD (l.length - 1 - k) false
def cls3 (n : Nat) (l : List Bool) : Bool := (List.range l.length).all fun r => (List.range n).all fun i => !(l.getD r false && !l.getD (r ||| 2 ^ i) false)
def sumTo (l : List Bool) (r : Nat) : Nat → Bool
  | 0 => l.getD 0 false
  | i + 1 => if (l.getD (2 ^ i) false != l.getD 0 false) && r.testBit i then !sumTo l r i else sumTo l r i
def cls4 (n : Nat) (l : List Bool) : Bool := (List.range l.length).all fun r => !(sumTo l r n != l.getD r false)

theorem Tb.Ok.len {t : Tb} (h : t.Ok) : 1 ≤ t.bits.length ∧ t.bits.length ≤ 16 := by
  obtain ⟨h1, h2⟩ := h
  rw [h2]
  have : t.n = 0 ∨ t.n = 1 ∨ t.n = 2 ∨ t.n = 3 ∨ t.n = 4 := by omega
  rcases this with h | h | h | h | h <;> rw [h] <;> decide

/-- Its cells. -/
theorem TR.cells {w : World} {t : Tb} {v : Value} (h : TR w t v) (hok : t.Ok) : ∃ g off cap, v = .agg #[.int .i64 (t.n : Nat), .slice (some ⟨g, off, none⟩) t.bits.length cap] ∧ t.bits.length ≤ cap ∧ ∀ j, j < t.bits.length → w.cell? ⟨g, off + j, none⟩ = some (.bool (t.bits.getD j false)) := by
  obtain ⟨ad, cap, rfl, ad', cap', h1, h2, h3, h4⟩ := h
  simp only [Value.slice.injEq, true_and] at h1
  obtain ⟨rfl, rfl⟩ := h1
  have := hok.len
  obtain ⟨g, off, rfl, h5⟩ := h4 (fun e => by rw [e] at this; simp at this)
  refine ⟨g, off, cap, rfl, h2, fun j hj => h5 j _ ?_⟩
  rw [List.getD_eq_getElem?_getD, List.getElem?_eq_getElem hj]
  rfl

theorem range_all_take (f : Nat → Bool) (n i : Nat) (hi : i < n) (_h : ∀ j, j < i → f j = true) (hf : f i = false) : (List.range n).all f = false := by
  rw [List.all_eq_false]
  exact ⟨i, List.mem_range.2 hi, by simp [hf]⟩
theorem range_all (f : Nat → Bool) (n : Nat) (h : ∀ j, j < n → f j = true) : (List.range n).all f = true := by
  rw [List.all_eq_true]
  exact fun j hj => h j (List.mem_range.1 hj)

set_option maxHeartbeats 1000000 in
theorem class0_any (t : Tb) (hok : t.Ok) (v : Value) (w : World) (h : TR w t v) :
    Calls Try.prog 48 #[v] w fun e w' => e = .returned (.bool (cls0 t.bits)) ∧ Below w.heap.size w w' := by
  obtain ⟨g, off, cap, rfl, hc, hcells⟩ := h.cells hok
  have hl := hok.len
  have B0 := below_more (Below.refl _ w) (.cells #[.int .i64 (t.n : Nat), .slice (some ⟨g, off, none⟩) t.bits.length cap] 33 (0, 0))
  have c0 := (B0.cell (p := ⟨g, off + 0, none⟩) (lt_of_cell (hcells 0 (by omega)))).trans (hcells 0 (by omega))
  rw [Nat.add_zero] at c0
  have HR : Hid (cls0 t.bits = !t.bits.getD 0 false) := rfl
  generalize t.bits.getD 0 false = bb at *
  have hlI : (1 : Int) ≤ (t.bits.length : Int) := by omega
  have hlc : (1 : Int) ≤ (cap : Int) := by omega
  have hlI0 : (0 : Int) < (t.bits.length : Int) := by omega
  have hlc0 : (0 : Int) < (cap : Int) := by omega
  clear hcells h hok
  go_enter Try.func48, Try.ntmps48
  go_wp2_with fail
  go_ret
  exact ⟨by rw [HR.out]; rfl, B0⟩

set_option maxHeartbeats 1000000 in
theorem class1_any (t : Tb) (hok : t.Ok) (v : Value) (w : World) (h : TR w t v) :
    Calls Try.prog 49 #[v] w fun e w' => e = .returned (.bool (cls1 t.bits)) ∧ Below w.heap.size w w' := by
  obtain ⟨g, off, cap, rfl, hc, hcells⟩ := h.cells hok
  have hl := hok.len
  obtain ⟨L, hL⟩ : ∃ L, t.bits.length = L + 1 := ⟨t.bits.length - 1, by omega⟩
  have B0 := below_more (Below.refl _ w) (.cells #[.int .i64 (t.n : Nat), .slice (some ⟨g, off, none⟩) t.bits.length cap] 33 (0, 0))
  have c0 := (B0.cell (p := ⟨g, off + L, none⟩) (lt_of_cell (hcells L (by omega)))).trans (hcells L (by omega))
  have HR : Hid (cls1 t.bits = t.bits.getD L false) := by show _ = _; unfold cls1; rw [hL]; rfl
  generalize t.bits.getD L false = bb at *
  generalize t.bits.length = M at *
  subst hL
  have hlI : (L : Int) ≤ 15 := by omega
  have hlc : (L : Int) < (cap : Int) := by omega
  clear hcells h hok
  go_enter Try.func49, Try.ntmps49
  go_wp2_with fail
  go_ret
  exact ⟨by rw [HR.out]; rfl, B0⟩
end Go.Proofs.Ythmjoindlmgfdab
/- Walks: isSelfDual, isRising, isSum. -/
namespace Go.Proofs.Ythmjoindlmgfdab
open Go.RowKit

set_option maxHeartbeats 2000000 in
theorem selfDual_any (t : Tb) (hok : t.Ok) (v : Value) (w : World) (h : TR w t v) :
    Calls Try.prog 50 #[v] w fun e w' => e = .returned (.bool (cls2 t.bits)) ∧ Below w.heap.size w w' := by
  obtain ⟨g, off, cap, rfl, hc, hcells⟩ := h.cells hok
  have hl := hok.len
  obtain ⟨L, hL⟩ : ∃ L, t.bits.length = L + 1 := ⟨t.bits.length - 1, by omega⟩
  have q0 := blk_new w (.cells #[.int .i64 (t.n : Nat), .slice (some ⟨g, off, none⟩) t.bits.length cap] 33 (0, 0))
  have B0 := below_more (Below.refl _ w) (.cells #[.int .i64 (t.n : Nat), .slice (some ⟨g, off, none⟩) t.bits.length cap] 33 (0, 0))
  have HCe : Hid (∀ j, j < t.bits.length → w.cell? ⟨g, off + j, none⟩ = some (.bool (t.bits.getD j false))) := hcells
  have HR : Hid (cls2 t.bits = (List.range (L + 1)).all fun k => t.bits.getD k false != t.bits.getD (L - k) false) := by show _ = _; unfold cls2; rw [hL]; rfl
  generalize cls2 t.bits = res at *
  generalize t.bits.length = M at *
  subst hL
  have hlI : (L : Int) ≤ 15 := by omega
  clear hcells h hok
  go_enter Try.func50, Try.ntmps50
  go_wp2_with fail
  go_loopg [13] (L + 1) (fun gk c wr => ∃ i, i ≤ L + 1 ∧ gk = L + 1 - i ∧ c = .int .i64 (i : Nat) ∧ Below w.heap.size w wr ∧ wr.heap[w.heap.size]? = some (.cells #[.int .i64 (t.n : Nat), .slice (some ⟨g, off, none⟩) (L + 1) cap] 33 (0, 0)) ∧ Hid (∀ j, j < i → (t.bits.getD j false != t.bits.getD (L - j) false) = true))
  case atStart => exact ⟨0, by omega, by omega, rfl, B0, q0, fun j h => absurd h (Nat.not_lt_zero _)⟩
  case round =>
    obtain ⟨i, hi, hg, rfl, hbr, q1, HN⟩ := hrel
    have HG : Hid (gk = L + 1 - i) := hg
    clear hg
    obtain ⟨a0, a1, -⟩ := blk2 q1
    by_cases hlt : i < L + 1
    · have g0 := (hbr.cell (p := ⟨g, off + i, none⟩) (lt_of_cell (HCe.out i hlt))).trans (HCe.out i hlt)
      obtain ⟨d, hd⟩ : ∃ d, L = d + i := ⟨L - i, by omega⟩
      have g1 := (hbr.cell (p := ⟨g, off + d, none⟩) (lt_of_cell (HCe.out d (by omega)))).trans (HCe.out d (by omega))
      have HX : Hid (∀ b, (t.bits.getD i false != t.bits.getD (L - i) false) = b → (b = true → ∀ j, j < i + 1 → (t.bits.getD j false != t.bits.getD (L - j) false) = true) ∧ (b = false → res = false)) := fun b hb => ⟨fun hbt j hj => by
          by_cases e : j = i
          · subst e; rw [hb]; exact hbt
          · exact HN.out j (by omega), fun hbf => by
          rw [HR.out]
          exact range_all_take _ _ i hlt HN.out (by rw [hb]; exact hbf)⟩
      have hLi : L - i = d := by omega
      rw [hLi] at HX
      generalize t.bits.getD i false = x at *
      generalize t.bits.getD d false = y at *
      have hltI : (i : Int) < (L : Int) + 1 := by omega
      have hlcI : (i : Int) < (cap : Int) := by omega
      have hdI : (L : Int) - (i : Int) = (d : Int) := by omega
      have hdc : (d : Int) < (cap : Int) := by omega
      have hdL : (d : Int) < (L : Int) + 1 := by omega
      clear hd hLi
      by_cases hxy : x = y
      · have HE : Hid (res = false) := (HX.out false (by subst hxy; simp)).2 rfl
        have hxe : (x == y) = true := by simpa using hxy
        clear HX hxy
        go_wp2_with fail
        go_ret
        exact ⟨by rw [HE.out]; rfl, hbr⟩
      · have HE : Hid (∀ j, j < i + 1 → (t.bits.getD j false != t.bits.getD (L - j) false) = true) := (HX.out true (by simpa using hxy)).1 rfl
        have hxe : (x == y) = false := by simpa using hxy
        clear HX hxy
        go_wp2_with fail
        go_roundg (L + 1 - (i + 1))
        case measure => have := HG.out; omega
        case rel => exact ⟨i + 1, by omega, rfl, by go_num, hbr, q1, HE⟩
    · have HE : Hid (res = true) := by
        show _ = _
        rw [HR.out]
        exact range_all _ _ fun j hj => HN.out j (by omega)
      have hge : ¬ (i : Int) < (L : Int) + 1 := by omega
      clear HN
      go_wp2_with fail
      go_ret
      exact ⟨by rw [HE.out]; rfl, hbr⟩

theorem or_row (r i : Nat) (n : Nat) (hn : n ≤ 4) (hr : r < 2 ^ n) (hi : i < n) : r ||| 2 ^ i < 2 ^ n ∧ bits BinOp.or IntKind.i64 (r : Int) ((2 ^ i : Nat) : Int) = ((r ||| 2 ^ i : Nat) : Int) := by
  have h1 : 2 ^ i < 2 ^ n := Nat.pow_lt_pow_right (by omega) hi
  refine ⟨Nat.or_lt_two_pow hr h1, ?_⟩
  have h2 : 2 ^ n ≤ 2 ^ 62 := Nat.pow_le_pow_right (by omega) (by omega)
  exact (bits_nat .i64 62 (by decide) wraps_i64 r (2 ^ i) (by omega) (by omega)).2

set_option maxHeartbeats 4000000 in
theorem rising_any (t : Tb) (hok : t.Ok) (v : Value) (w : World) (h : TR w t v) :
    Calls Try.prog 51 #[v] w fun e w' => e = .returned (.bool (cls3 t.n t.bits)) ∧ Below w.heap.size w w' := by
  obtain ⟨g, off, cap, rfl, hc, hcells⟩ := h.cells hok
  have hl := hok.len
  obtain ⟨hn4, hlen⟩ := hok
  have q0 := blk_new w (.cells #[.int .i64 (t.n : Nat), .slice (some ⟨g, off, none⟩) t.bits.length cap] 33 (0, 0))
  have B0 := below_more (Below.refl _ w) (.cells #[.int .i64 (t.n : Nat), .slice (some ⟨g, off, none⟩) t.bits.length cap] 33 (0, 0))
  have HCe : Hid (∀ j, j < t.bits.length → w.cell? ⟨g, off + j, none⟩ = some (.bool (t.bits.getD j false))) := hcells
  have HR : Hid (cls3 t.n t.bits = (List.range t.bits.length).all fun r => (List.range t.n).all fun i => !(t.bits.getD r false && !t.bits.getD (r ||| 2 ^ i) false)) := rfl
  generalize cls3 t.n t.bits = res at *
  have HLn : Hid (t.bits.length = 2 ^ t.n) := hlen
  clear hlen
  generalize t.bits.length = M at *
  have hMI : (M : Int) ≤ 16 := by omega
  obtain ⟨N, bs⟩ := t
  simp only at *
  have hNI : (N : Int) ≤ 4 := by omega
  clear hcells h
  go_enter Try.func51, Try.ntmps51
  go_wp2_with fail
  go_loopg [9] M (fun gk c wr => ∃ r, r ≤ M ∧ gk = M - r ∧ c = .int .i64 (r : Nat) ∧ Below w.heap.size w wr ∧ wr.heap[w.heap.size]? = some (.cells #[.int .i64 (N : Nat), .slice (some ⟨g, off, none⟩) M cap] 33 (0, 0)) ∧ Hid (∀ j, j < r → ((List.range N).all fun i => !(bs.getD j false && !bs.getD (j ||| 2 ^ i) false)) = true))
  case atStart => exact ⟨0, by omega, by omega, rfl, B0, q0, fun j h => absurd h (Nat.not_lt_zero _)⟩
  case round =>
    obtain ⟨r, hr, hg, rfl, hbr, q1, HN⟩ := hrel
    have HG : Hid (gk = M - r) := hg
    clear hg
    obtain ⟨a0, a1, -⟩ := blk2 q1
    by_cases hlt : r < M
    · have g0 := (hbr.cell (p := ⟨g, off + r, none⟩) (lt_of_cell (HCe.out r hlt))).trans (HCe.out r hlt)
      have HX1 : Hid (((List.range N).all fun i => !(bs.getD r false && !bs.getD (r ||| 2 ^ i) false)) = true → ∀ j, j < r + 1 → ((List.range N).all fun i => !(bs.getD j false && !bs.getD (j ||| 2 ^ i) false)) = true) := fun hb j hj => by
          by_cases e : j = r
          · subst e; exact hb
          · exact HN.out j (by omega)
      have HX2 : Hid (((List.range N).all fun i => !(bs.getD r false && !bs.getD (r ||| 2 ^ i) false)) = false → res = false) := fun hb => by
          rw [HR.out]
          exact range_all_take _ _ r hlt HN.out hb
      generalize bs.getD r false = x at *
      have hltI : (r : Int) < (M : Int) := by omega
      have hlcI : (r : Int) < (cap : Int) := by omega
      obtain ⟨W0, hW0⟩ : ∃ W0, W0 = wr := ⟨_, rfl⟩
      subst hW0
      go_wp2_with fail
      go_loopg [16] N (fun gk c wr => ∃ i, i ≤ N ∧ gk = N - i ∧ c = .int .i64 (i : Nat) ∧ Below W0.heap.size W0 wr ∧ Hid (∀ j, j < i → (!(x && !bs.getD (r ||| 2 ^ j) false)) = true))
      case atStart => exact ⟨0, by omega, by omega, rfl, Below.refl _ _, fun j h => absurd h (Nat.not_lt_zero _)⟩
      case round =>
        obtain ⟨i, hi, hg2, rfl, hbz, HY⟩ := hrel
        have HG2 : Hid (gk = N - i) := hg2
        clear hg2 g0 a0 a1
        have BZ := below_join hbr hbz
        have q2 := below_keep hbz q1
        obtain ⟨a0, a1, -⟩ := blk2 q2
        by_cases hiN : i < N
        · obtain ⟨hq1, hq2⟩ := or_row r i N hn4 (by have := HLn.out; omega) hiN
          have g1 := (BZ.cell (p := ⟨g, off + (r ||| 2 ^ i), none⟩) (lt_of_cell (HCe.out _ (by have := HLn.out; omega)))).trans (HCe.out (r ||| 2 ^ i) (by have := HLn.out; omega))
          have hqM : r ||| 2 ^ i < M := by have := HLn.out; omega
          have hw := (shl_row i (by omega)).1
          have HX3 : Hid ((!(x && !bs.getD (r ||| 2 ^ i) false)) = true → ∀ j, j < i + 1 → (!(x && !bs.getD (r ||| 2 ^ j) false)) = true) := fun hb j hj => by
            by_cases e : j = i
            · subst e; exact hb
            · exact HY.out j (by omega)
          have HX4 : Hid ((!(x && !bs.getD (r ||| 2 ^ i) false)) = false → res = false) := fun hb => HX2.out (range_all_take _ _ i hiN HY.out hb)
          generalize bs.getD (r ||| 2 ^ i) false = y at *
          generalize r ||| 2 ^ i = q at *
          generalize 2 ^ i = P at *
          have hiI : (i : Int) < (N : Int) := by omega
          have hqI : (q : Int) < (M : Int) := by omega
          have hqc : (q : Int) < (cap : Int) := by omega
          clear hq1 hqM
          cases x
          · have HE := HX3.out (by simp)
            have HE' : Hid (∀ j, j < i + 1 → (!(false && !bs.getD (r ||| 2 ^ j) false)) = true) := HE
            clear HE HX3 HX4 HX1 HX2
            go_wp2_with fail
            go_quiet (fail)
            go_wp2_with fail
            go_roundg (N - (i + 1))
            case measure => have := HG2.out; omega
            case rel => exact ⟨i + 1, by omega, rfl, by go_num, ⟨hbz.os, hbz.tape, hbz.output, hbz.size, hbz.block⟩, HE'⟩
          · cases y
            · have HE : Hid (res = false) := HX4.out (by simp)
              clear HX3 HX4 HX1 HX2
              go_wp2_with fail
              go_quiet (fail)
              go_wp2_with fail
              go_ret
              exact ⟨by rw [HE.out]; rfl, ⟨BZ.os, BZ.tape, BZ.output, BZ.size, BZ.block⟩⟩
            · have HE := HX3.out (by simp)
              have HE' : Hid (∀ j, j < i + 1 → (!(true && !bs.getD (r ||| 2 ^ j) false)) = true) := HE
              clear HE HX3 HX4 HX1 HX2
              go_wp2_with fail
              go_quiet (fail)
              go_wp2_with fail
              go_roundg (N - (i + 1))
              case measure => have := HG2.out; omega
              case rel => exact ⟨i + 1, by omega, rfl, by go_num, ⟨hbz.os, hbz.tape, hbz.output, hbz.size, hbz.block⟩, HE'⟩
        · have HE := HX1.out (range_all _ _ fun j hj => HY.out j (by omega))
          have HE' : Hid (∀ j, j < r + 1 → ((List.range N).all fun i => !(bs.getD j false && !bs.getD (j ||| 2 ^ i) false)) = true) := HE
          have hge : ¬ (i : Int) < (N : Int) := by omega
          clear HE HX1 HX2 HY
          go_wp2_with fail
          go_roundg (M - (r + 1))
          case measure => have := HG.out; omega
          case rel => exact ⟨r + 1, by omega, rfl, by go_num, BZ, q2, HE'⟩
    · have HE : Hid (res = true) := by
        show _ = _
        rw [HR.out]
        exact range_all _ _ fun j hj => HN.out j (by omega)
      have hge : ¬ (r : Int) < (M : Int) := by omega
      clear HN
      go_wp2_with fail
      go_ret
      exact ⟨by rw [HE.out]; rfl, hbr⟩
end Go.Proofs.Ythmjoindlmgfdab
/- Walks: isSum. -/
namespace Go.Proofs.Ythmjoindlmgfdab
open Go.RowKit

theorem below_same {B : Nat} {W w : World} (h : Below B W w) (k : Nat) : Below B W (w.drewN k) := ⟨h.os, h.tape, h.output, h.size, h.block⟩

set_option maxHeartbeats 4000000 in
theorem sum_any (t : Tb) (hok : t.Ok) (v : Value) (w : World) (h : TR w t v) :
    Calls Try.prog 52 #[v] w fun e w' => e = .returned (.bool (cls4 t.n t.bits)) ∧ Below w.heap.size w w' := by
  obtain ⟨g, off, cap, rfl, hc, hcells⟩ := h.cells hok
  have hl := hok.len
  obtain ⟨hn4, hlen⟩ := hok
  have q0 := blk_new w (.cells #[.int .i64 (t.n : Nat), .slice (some ⟨g, off, none⟩) t.bits.length cap] 33 (0, 0))
  have B0 := below_more (Below.refl _ w) (.cells #[.int .i64 (t.n : Nat), .slice (some ⟨g, off, none⟩) t.bits.length cap] 33 (0, 0))
  have HCe : Hid (∀ j, j < t.bits.length → w.cell? ⟨g, off + j, none⟩ = some (.bool (t.bits.getD j false))) := hcells
  have HR : Hid (cls4 t.n t.bits = (List.range t.bits.length).all fun r => !(sumTo t.bits r t.n != t.bits.getD r false)) := rfl
  generalize cls4 t.n t.bits = res at *
  have HLn : Hid (t.bits.length = 2 ^ t.n) := hlen
  clear hlen
  generalize t.bits.length = M at *
  have hMI : (M : Int) ≤ 16 := by omega
  have hM1 : (0 : Int) < (M : Int) := by omega
  have hc1 : (0 : Int) < (cap : Int) := by omega
  obtain ⟨N, bs⟩ := t
  simp only at *
  have hNI : (N : Int) ≤ 4 := by omega
  clear hcells h
  go_enter Try.func52, Try.ntmps52
  go_wp2_with fail
  go_loopg [11] M (fun gk c wr => ∃ r, r ≤ M ∧ gk = M - r ∧ c = .int .i64 (r : Nat) ∧ Below w.heap.size w wr ∧ wr.heap[w.heap.size]? = some (.cells #[.int .i64 (N : Nat), .slice (some ⟨g, off, none⟩) M cap] 33 (0, 0)) ∧ Hid (∀ j, j < r → (!(sumTo bs j N != bs.getD j false)) = true))
  case atStart => exact ⟨0, by omega, by omega, rfl, B0, q0, fun j h => absurd h (Nat.not_lt_zero _)⟩
  case round =>
    obtain ⟨r, hr, hg, rfl, hbr, q1, HN⟩ := hrel
    have HG : Hid (gk = M - r) := hg
    clear hg
    obtain ⟨a0, a1, -⟩ := blk2 q1
    by_cases hlt : r < M
    · have g0 := (hbr.cell (p := ⟨g, off + r, none⟩) (lt_of_cell (HCe.out r hlt))).trans (HCe.out r hlt)
      have z0 := (hbr.cell (p := ⟨g, off + 0, none⟩) (lt_of_cell (HCe.out 0 (by omega)))).trans (HCe.out 0 (by omega))
      rw [Nat.add_zero] at z0
      have HX1 : Hid ((!(sumTo bs r N != bs.getD r false)) = true → ∀ j, j < r + 1 → (!(sumTo bs j N != bs.getD j false)) = true) := fun hb j hj => by
          by_cases e : j = r
          · subst e; exact hb
          · exact HN.out j (by omega)
      have HX2 : Hid ((!(sumTo bs r N != bs.getD r false)) = false → res = false) := fun hb => by
          rw [HR.out]
          exact range_all_take _ _ r hlt HN.out hb
      have HS0 : Hid (sumTo bs r 0 = bs.getD 0 false) := by show _ = _; rw [sumTo]
      have HS1 : Hid (∀ i, sumTo bs r (i + 1) = if (bs.getD (2 ^ i) false != bs.getD 0 false) && r.testBit i then !sumTo bs r i else sumTo bs r i) := fun i => by rw [sumTo]
      generalize bs.getD 0 false = x0 at *
      generalize bs.getD r false = x at *
      have hltI : (r : Int) < (M : Int) := by omega
      have hlcI : (r : Int) < (cap : Int) := by omega
      obtain ⟨W0, hW0⟩ : ∃ W0, W0 = wr := ⟨_, rfl⟩
      subst hW0
      go_wp2_with fail
      go_loopg [22, 5] N (fun gk c s wr => ∃ i, i ≤ N ∧ gk = N - i ∧ c = .int .i64 (i : Nat) ∧ s = .bool (sumTo bs r i) ∧ Below W0.heap.size W0 wr)
      case atStart => exact ⟨0, by omega, by omega, rfl, by rw [HS0.out], Below.refl _ _⟩
      case round =>
        obtain ⟨i, hi, hg2, rfl, rfl, hbz⟩ := hrel
        have HG2 : Hid (gk = N - i) := hg2
        have z1 := (hbz.cell (p := ⟨g, off, none⟩) (lt_of_cell z0)).trans z0
        clear hg2 g0 a0 a1 z0
        have BZ := below_join hbr hbz
        have q2 := below_keep hbz q1
        obtain ⟨a0, a1, -⟩ := blk2 q2
        by_cases hiN : i < N
        · have hP : 2 ^ i < 2 ^ N := Nat.pow_lt_pow_right (by omega) hiN
          have hqM : 2 ^ i < M := by have := HLn.out; omega
          have g1 := (BZ.cell (p := ⟨g, off + 2 ^ i, none⟩) (lt_of_cell (HCe.out _ hqM))).trans (HCe.out (2 ^ i) hqM)
          have hw := (shl_row i (by omega)).1
          have HS2 : Hid (sumTo bs r (i + 1) = _) := HS1.out i
          have hdi := fun w => digit_any r i (by omega) (by omega) w
          obtain ⟨s1, hs1⟩ : ∃ s1, s1 = sumTo bs r (i + 1) := ⟨_, rfl⟩
          rw [← hs1] at HS2
          have HS3 : Hid (sumTo bs r (i + 1) = s1) := hs1.symm
          clear hs1
          generalize sumTo bs r i = s0 at *
          generalize bs.getD (2 ^ i) false = y at *
          generalize r.testBit i = d at *
          generalize 2 ^ i = P at *
          have HDi : Hid (∀ w, Calls Try.prog 61 _ w _) := hdi
          have hiI : (i : Int) < (N : Int) := by omega
          have hqI : (P : Int) < (M : Int) := by omega
          have hqc : (P : Int) < (cap : Int) := by omega
          clear hP hqM hdi
          by_cases hyx : y = x0
          · have hye : (y == x0) = true := by simpa using hyx
            have HE : Hid (s1 = s0) := by
              show _ = _
              rw [HS2.out, hyx]; simp
            clear HX1 HX2 HS1 HS0 HS2 hyx
            go_wp2_with fail
            go_quiet (fail)
            go_wp2_with fail
            go_roundg (N - (i + 1))
            case measure => have := HG2.out; omega
            case rel => exact ⟨i + 1, by omega, rfl, by go_num, by rw [HS3.out, HE.out], below_same hbz _⟩
          · have hye : (y == x0) = false := by simpa using hyx
            have HE : Hid (s1 = if d then !s0 else s0) := by
              show _ = _
              rw [HS2.out]; simp [hyx]
            clear HX1 HX2 HS1 HS0 HS2 hyx
            cases d
            all_goals
              go_wp2_with fail
              go_quiet (fail)
              go_wp2_with (first
                | (go_at_call 61
                   refine (HDi.out _).mono ?_
                   rintro e w3 ⟨rfl, hw3⟩
                   subst hw3)
                | fail)
              go_roundg (N - (i + 1))
              case measure => have := HG2.out; omega
              case rel => exact ⟨i + 1, by omega, rfl, by go_num, by rw [HS3.out, HE.out]; simp, below_same hbz _⟩
        · obtain rfl : i = N := by omega
          have hge : ¬ (i : Int) < (i : Int) := by omega
          generalize sumTo bs r i = s0 at *
          by_cases hsx : s0 = x
          · have HE := HX1.out (by subst hsx; simp)
            have HE' : Hid (∀ j, j < r + 1 → (!(sumTo bs j i != bs.getD j false)) = true) := HE
            have hse : (s0 == x) = true := by simpa using hsx
            clear HE HX1 HX2 hsx
            go_wp2_with fail
            go_roundg (M - (r + 1))
            case measure => have := HG.out; omega
            case rel => exact ⟨r + 1, by omega, rfl, by go_num, BZ, q2, HE'⟩
          · have hse : (s0 == x) = false := by simpa using hsx
            have HE : Hid (res = false) := HX2.out (by simp [hsx])
            clear HX1 HX2 hsx
            go_wp2_with fail
            go_ret
            exact ⟨by rw [HE.out]; rfl, BZ⟩
    · have HE : Hid (res = true) := by
        show _ = _
        rw [HR.out]
        exact range_all _ _ fun j hj => HN.out j (by omega)
      have hge : ¬ (r : Int) < (M : Int) := by omega
      clear HN
      go_wp2_with fail
      go_ret
      exact ⟨by rw [HE.out]; rfl, hbr⟩
end Go.Proofs.Ythmjoindlmgfdab
