/- Texts of one proof, one behind the other: TC6, TY1, TY2. -/
import Derived.Test.YtknngeojhiejnabB10
/- Walks: Complete, its answer. -/
namespace Go.Proofs.Ytknngeojhiejnab
open Go.RowKit

/-- Post's classes, by number. -/
def clsT (i : Nat) (t : Tb) : Bool := match i with
  | 0 => cls0 t.bits
  | 1 => cls1 t.bits
  | 2 => cls2 t.bits
  | 3 => cls3 t.n t.bits
  | _ => cls4 t.n t.bits
def allC (ts : List Tb) (i : Nat) : Bool := !ts.any fun t => !clsT i t
def compC (ts : List Tb) : Nat → Bool
  | 0 => true
  | i + 1 => compC ts i && !allC ts i
def allV (ts : List Tb) (i j : Nat) : Value := .bool (decide (j < i) && allC ts j)

theorem TQ.len {w : World} {v : Value} {ts : List (Int × List Bool)} (h : TQ w v ts) : ∃ ad cap, v = .slice ad ts.length cap := by
  obtain ⟨ad, cap, h1, -⟩ := h
  exact ⟨ad, cap, h1⟩

theorem tbad_ok {t : Tb} (h : t.Ok) : tbad ((t.n : Int), t.bits) = 0 := by
  unfold tbad
  rw [if_neg (by have := h.1; simp only; omega)]
  have := h.2
  simp [this]
theorem tfirst_ok : ∀ (ts : List Tb) (i : Nat), (∀ t ∈ ts, t.Ok) → tfirst (raws ts) i = (0, 0)
  | [], i, _ => rfl
  | t :: ts, i, h => by
    show tfirst (((t.n : Int), t.bits) :: raws ts) i = _
    rw [tfirst, tbad_ok (h t (List.mem_cons_self ..)), if_pos rfl]
    exact tfirst_ok ts (i + 1) fun x hx => h x (List.mem_cons_of_mem _ hx)

theorem cls_at0 (w : World) : (Instr.index 69 (.agg #[.func (.func 57) #[] #[], .func (.func 58) #[] #[], .func (.func 59) #[] #[], .func (.func 60) #[] #[], .func (.func 61) #[] #[]]) (.int .i64 0)).run Try.prog w = .ok (.func (.func 57) #[] #[]) w := by kernel_rfl
theorem cls_at1 (w : World) : (Instr.index 69 (.agg #[.func (.func 57) #[] #[], .func (.func 58) #[] #[], .func (.func 59) #[] #[], .func (.func 60) #[] #[], .func (.func 61) #[] #[]]) (.int .i64 1)).run Try.prog w = .ok (.func (.func 58) #[] #[]) w := by kernel_rfl
theorem cls_at2 (w : World) : (Instr.index 69 (.agg #[.func (.func 57) #[] #[], .func (.func 58) #[] #[], .func (.func 59) #[] #[], .func (.func 60) #[] #[], .func (.func 61) #[] #[]]) (.int .i64 2)).run Try.prog w = .ok (.func (.func 59) #[] #[]) w := by kernel_rfl
theorem cls_at3 (w : World) : (Instr.index 69 (.agg #[.func (.func 57) #[] #[], .func (.func 58) #[] #[], .func (.func 59) #[] #[], .func (.func 60) #[] #[], .func (.func 61) #[] #[]]) (.int .i64 3)).run Try.prog w = .ok (.func (.func 60) #[] #[]) w := by kernel_rfl
theorem cls_at4 (w : World) : (Instr.index 69 (.agg #[.func (.func 57) #[] #[], .func (.func 58) #[] #[], .func (.func 59) #[] #[], .func (.func 60) #[] #[], .func (.func 61) #[] #[]]) (.int .i64 4)).run Try.prog w = .ok (.func (.func 61) #[] #[]) w := by kernel_rfl

set_option maxHeartbeats 8000000 in
theorem complete_yes (ts : List Tb) (hl : ts.length ≤ 20) (hok : ∀ t ∈ ts, t.Ok) (v : Value) (w : World) (hv : TQ w v (raws ts)) :
    Calls Try.prog 8 #[v] w fun e w' => e = .returned (.tuple #[.bool (compC ts 5), .agg #[allV ts 5 0, allV ts 5 1, allV ts 5 2, allV ts 5 3, allV ts 5 4], .agg #[.int .i64 0, .int .i64 0]]) ∧ Below w.heap.size w w' := by
  have htf := fun v (w : World) h => tablesFault_any (raws ts) v w h
  have htc : tcode (raws ts) = (0, 0) := by
    unfold tcode
    rw [if_neg (by simp [raws]; omega)]
    exact tfirst_ok ts 0 hok
  rw [htc] at htf
  have HTf : Hid (∀ v w, TQ w v (raws ts) → Calls Try.prog 33 #[v] w _) := htf
  have H0 : Hid (∀ cb v w, TQ w v (raws ts) → OkF cb 57 w → Calls Try.prog 36 _ w _) := fun cb v w h o => contains_tab (predC pred0 cb) ts hok v w h o
  have H1 : Hid (∀ cb v w, TQ w v (raws ts) → OkF cb 58 w → Calls Try.prog 36 _ w _) := fun cb v w h o => contains_tab (predC pred1 cb) ts hok v w h o
  have H2 : Hid (∀ cb v w, TQ w v (raws ts) → OkF cb 59 w → Calls Try.prog 36 _ w _) := fun cb v w h o => contains_tab (predC pred2 cb) ts hok v w h o
  have H3 : Hid (∀ cb v w, TQ w v (raws ts) → OkF cb 60 w → Calls Try.prog 36 _ w _) := fun cb v w h o => contains_tab (predC pred3 cb) ts hok v w h o
  have H4 : Hid (∀ cb v w, TQ w v (raws ts) → OkF cb 61 w → Calls Try.prog 36 _ w _) := fun cb v w h o => contains_tab (predC pred4 cb) ts hok v w h o
  have HCl : Hid (∀ w, Calls Try.prog 34 #[] w _) := fun w => classes_any w
  have HV : Hid (TQ w v (raws ts)) := hv
  obtain ⟨ad, cap, rfl⟩ := hv.len
  have hmf : ∀ (fn : Fn) (first cap : Array Value) (w : World), (Instr.makeFunc fn first cap).run Try.prog w = .ok (.func fn first cap) w := fun _ _ _ _ => rfl
  clear htf htc hv hl
  go_enter Try.func8, Try.ntmps8
  go_wp2_with (first
    | (go_at_call 33
       refine (HTf.out _ _ (HV.out.up (below_more (below_more (Below.refl _ w) _) _))).mono ?_
       rintro e w1 ⟨rfl, hb1⟩
       have z1 := hb1.size
       simp at z1
       have q0 := below_keep hb1 (alloc_keep (blk_new w _) _)
       have q1 := below_keep hb1 (blk_new (w.alloc _) _)
       rw [show (w.alloc _).heap.size = w.heap.size + 1 by simp] at q1
       have B1 := below_join (below_more (below_more (Below.refl _ w) _) _) hb1)
    | (go_at_call 34
       refine (HCl.out _).mono ?_
       rintro e w2 ⟨rfl, hb2⟩
       have r0 := below_keep hb2 (alloc_keep q0 _)
       have r1 := below_keep hb2 (alloc_keep q1 _)
       have B2 := below_join (below_more B1 _) hb2)
    | fail)
  go_loopg [17, 2] 5 (fun gk c b wr => ∃ i, i ≤ 5 ∧ gk = 5 - i ∧ c = .int .i64 (i : Nat) ∧ b = .bool (compC ts i) ∧ Below w.heap.size w wr ∧ wr.heap[w.heap.size]? = some (.cells #[allV ts i 0, allV ts i 1, allV ts i 2, allV ts i 3, allV ts i 4] 23 (0, 0)) ∧ wr.heap[w.heap.size + 1]? = some (.cells #[.int .i64 0, .int .i64 0] 25 (0, 0)))
  case atStart => exact ⟨0, by omega, by omega, rfl, rfl, B2, r0, r1⟩
  case round =>
    obtain ⟨i, hi, hg, rfl, rfl, hbr, q2, q3⟩ := hrel
    have HG : Hid (gk = 5 - i) := hg
    clear hg
    have hi5 : i = 5 ∨ i = 0 ∨ i = 1 ∨ i = 2 ∨ i = 3 ∨ i = 4 := by omega
    rcases hi5 with rfl | rfl | rfl | rfl | rfl | rfl
    · have HVs : Hid (allV ts 5 0 = .bool (allC ts 0) ∧ allV ts 5 1 = .bool (allC ts 1) ∧ allV ts 5 2 = .bool (allC ts 2) ∧ allV ts 5 3 = .bool (allC ts 3) ∧ allV ts 5 4 = .bool (allC ts 4)) := by
        refine ⟨?_, ?_, ?_, ?_, ?_⟩ <;> simp [allV]
      rw [HVs.out.1, HVs.out.2.1, HVs.out.2.2.1, HVs.out.2.2.2.1, HVs.out.2.2.2.2] at q2
      generalize allC ts 0 = x0 at *
      generalize allC ts 1 = x1 at *
      generalize allC ts 2 = x2 at *
      generalize allC ts 3 = x3 at *
      generalize allC ts 4 = x4 at *
      have z2 := lt_of_block q2
      have z3 := lt_of_block q3
      have c0 := blk_cell q2 0
      have c1 := blk_cell q2 1
      have c2 := blk_cell q2 2
      have c3 := blk_cell q2 3
      have c4 := blk_cell q2 4
      have f0 := blk_fz q2 0
      have f1 := blk_fz q2 1
      have f2 := blk_fz q2 2
      have f3 := blk_fz q2 3
      have f4 := blk_fz q2 4
      simp at c0 c1 c2 c3 c4
      obtain ⟨k1, k2, k3, k4⟩ := blk2 q3
      clear H0 H1 H2 H3 H4
      go_wp2_with fail
      go_region
      all_goals go_wp2
      have BF : Below w.heap.size w (((((((wr.setCell ⟨w.heap.size, 0, none⟩ (.bool x0)).setCell ⟨w.heap.size, 1, none⟩ (.bool x1)).setCell ⟨w.heap.size, 2, none⟩ (.bool x2)).setCell ⟨w.heap.size, 3, none⟩ (.bool x3)).setCell ⟨w.heap.size, 4, none⟩ (.bool x4)).setCell ⟨w.heap.size + 1, 0, none⟩ (.int .i64 0)).setCell ⟨w.heap.size + 1, 1, none⟩ (.int .i64 0)) :=
        ((((((hbr.setCell (by simp) _).setCell (by simp) _).setCell (by simp) _).setCell (by simp) _).setCell (by simp) _).setCell (by simp) _).setCell (by simp) _
      have g0 : (((((((wr.setCell ⟨w.heap.size, 0, none⟩ (.bool x0)).setCell ⟨w.heap.size, 1, none⟩ (.bool x1)).setCell ⟨w.heap.size, 2, none⟩ (.bool x2)).setCell ⟨w.heap.size, 3, none⟩ (.bool x3)).setCell ⟨w.heap.size, 4, none⟩ (.bool x4)).setCell ⟨w.heap.size + 1, 0, none⟩ (.int .i64 0)).setCell ⟨w.heap.size + 1, 1, none⟩ (.int .i64 0)).heap[w.heap.size]? = some (.cells #[.bool x0, .bool x1, .bool x2, .bool x3, .bool x4] 23 (0, 0)) := by
        rw [Below.heap_setCell _ _ _ _ (by simp), Below.heap_setCell _ _ _ _ (by simp)]
        have := set_cell (j := 4) (set_cell (j := 3) (set_cell (j := 2) (set_cell (j := 1) (set_cell (j := 0) q2 (.bool x0)) (.bool x1)) (.bool x2)) (.bool x3)) (.bool x4)
        rw [this]
        simp
      have g1 := set2 (show (((((wr.setCell ⟨w.heap.size, 0, none⟩ (.bool x0)).setCell ⟨w.heap.size, 1, none⟩ (.bool x1)).setCell ⟨w.heap.size, 2, none⟩ (.bool x2)).setCell ⟨w.heap.size, 3, none⟩ (.bool x3)).setCell ⟨w.heap.size, 4, none⟩ (.bool x4)).heap[w.heap.size + 1]? = some (.cells #[.int .i64 0, .int .i64 0] 25 (0, 0)) by
        rw [Below.heap_setCell _ _ _ _ (by simp), Below.heap_setCell _ _ _ _ (by simp), Below.heap_setCell _ _ _ _ (by simp), Below.heap_setCell _ _ _ _ (by simp), Below.heap_setCell _ _ _ _ (by simp)]
        exact q3) (.int .i64 0) (.int .i64 0)
      generalize World.setCell _ _ _ = F at BF g0 g1 ⊢
      clear c0 c1 c2 c3 c4 k1 k2 k3 k4
      have c0 := blk_cell g0 0
      have c1 := blk_cell g0 1
      have c2 := blk_cell g0 2
      have c3 := blk_cell g0 3
      have c4 := blk_cell g0 4
      simp at c0 c1 c2 c3 c4
      obtain ⟨k1, k2, -⟩ := blk2 g1
      exact bodyPost_ret (v := .tuple #[.bool (compC ts 5), .agg #[.bool x0, .bool x1, .bool x2, .bool x3, .bool x4], .agg #[.int .i64 0, .int .i64 0]]) (by simp [results, Try.results8, go_sem, k1, k2, c0, c1, c2, c3, c4]) rfl ⟨by rw [HVs.out.1, HVs.out.2.1, HVs.out.2.2.1, HVs.out.2.2.2.1, HVs.out.2.2.2.2], BF.drew⟩
    · have HNx : Hid (compC ts 1 = (compC ts 0 && !allC ts 0) ∧ allC ts 0 = !ts.any fun t => !clsT 0 t) := ⟨rfl, rfl⟩
      have HAl : Hid ((#[allV ts 0 0, allV ts 0 1, allV ts 0 2, allV ts 0 3, allV ts 0 4]).setIfInBounds 0 (.bool (allC ts 0)) = #[allV ts 1 0, allV ts 1 1, allV ts 1 2, allV ts 1 3, allV ts 1 4]) := by
        show _ = _
        simp [allV]
      have hcc := H0.out wr.heap.size (.slice ad (raws ts).length cap) (wr.alloc (.cells #[.func (.func 57) #[] #[]] 68 (0, 0))) (HV.out.up (below_more hbr _)) (blk_new _ _)
      have hA : (ts.any fun t => !clsT 0 t) = !allC ts 0 := by rw [HNx.out.2]; simp
      have hcc' : Calls Try.prog 36 #[.slice ad (raws ts).length cap, .func (.func 35) #[] #[.pointer (some ⟨wr.heap.size, 0, none⟩)]] (wr.alloc (.cells #[.func (.func 57) #[] #[]] 68 (0, 0))) fun e w' => e = .returned (.bool (!allC ts 0)) ∧ Below (wr.alloc (.cells #[.func (.func 57) #[] #[]] 68 (0, 0))).heap.size (wr.alloc (.cells #[.func (.func 57) #[] #[]] 68 (0, 0))) w' := by
        rw [← hA]; exact hcc
      have HX : Hid (Calls Try.prog 36 _ _ _) := hcc'
      have HC1 : Hid (compC ts 1 = (compC ts 0 && !allC ts 0)) := rfl
      generalize allC ts 0 = x at *
      obtain ⟨y, hy⟩ : ∃ y, y = compC ts 0 := ⟨_, rfl⟩
      rw [← hy] at HC1 ⊢
      have z2 := lt_of_block q2
      have z3 := lt_of_block q3
      clear hcc hcc' hA H0 H1 H2 H3 H4 HNx hy
      have hia := fun w => cls_at0 w
      cases y
      all_goals
        go_wp2_with (first
          | (go_at_call 36
             refine HX.out.mono ?_
             rintro e w3 ⟨rfl, hb3⟩
             have s0 := below_keep hb3 (alloc_keep q2 _)
             have s1 := below_keep hb3 (alloc_keep q3 _)
             have B3 := below_join (below_more hbr _) hb3
             have e0 := blk_cell s0 0
             have e1 := blk_fz s0 0
             simp at e0)
          | fail)
        have t0 := set_cell (j := 0) s0 (.bool x)
        rw [HAl.out] at t0
        have t1 : (w3.setCell ⟨w.heap.size, 0, none⟩ (.bool x)).heap[w.heap.size + 1]? = _ := (Below.heap_setCell _ _ _ _ (by simp)).trans s1
        have BF : Below w.heap.size w (w3.setCell ⟨w.heap.size, 0, none⟩ (.bool x)) := B3.setCell (by simp) _
        go_roundg (5 - (0 + 1))
        case measure => have := HG.out; omega
        case rel => exact ⟨1, by omega, rfl, by go_num, by rw [HC1.out]; simp, BF, t0, t1⟩
    · have HNx : Hid (compC ts 2 = (compC ts 1 && !allC ts 1) ∧ allC ts 1 = !ts.any fun t => !clsT 1 t) := ⟨rfl, rfl⟩
      have HAl : Hid ((#[allV ts 1 0, allV ts 1 1, allV ts 1 2, allV ts 1 3, allV ts 1 4]).setIfInBounds 1 (.bool (allC ts 1)) = #[allV ts 2 0, allV ts 2 1, allV ts 2 2, allV ts 2 3, allV ts 2 4]) := by
        show _ = _
        simp [allV]
      have hcc := H1.out wr.heap.size (.slice ad (raws ts).length cap) (wr.alloc (.cells #[.func (.func 58) #[] #[]] 68 (0, 0))) (HV.out.up (below_more hbr _)) (blk_new _ _)
      have hA : (ts.any fun t => !clsT 1 t) = !allC ts 1 := by rw [HNx.out.2]; simp
      have hcc' : Calls Try.prog 36 #[.slice ad (raws ts).length cap, .func (.func 35) #[] #[.pointer (some ⟨wr.heap.size, 0, none⟩)]] (wr.alloc (.cells #[.func (.func 58) #[] #[]] 68 (0, 0))) fun e w' => e = .returned (.bool (!allC ts 1)) ∧ Below (wr.alloc (.cells #[.func (.func 58) #[] #[]] 68 (0, 0))).heap.size (wr.alloc (.cells #[.func (.func 58) #[] #[]] 68 (0, 0))) w' := by
        rw [← hA]; exact hcc
      have HX : Hid (Calls Try.prog 36 _ _ _) := hcc'
      have HC1 : Hid (compC ts 2 = (compC ts 1 && !allC ts 1)) := rfl
      generalize allC ts 1 = x at *
      obtain ⟨y, hy⟩ : ∃ y, y = compC ts 1 := ⟨_, rfl⟩
      rw [← hy] at HC1 ⊢
      have z2 := lt_of_block q2
      have z3 := lt_of_block q3
      clear hcc hcc' hA H0 H1 H2 H3 H4 HNx hy
      have hia := fun w => cls_at1 w
      cases y
      all_goals
        go_wp2_with (first
          | (go_at_call 36
             refine HX.out.mono ?_
             rintro e w3 ⟨rfl, hb3⟩
             have s0 := below_keep hb3 (alloc_keep q2 _)
             have s1 := below_keep hb3 (alloc_keep q3 _)
             have B3 := below_join (below_more hbr _) hb3
             have e0 := blk_cell s0 1
             have e1 := blk_fz s0 1
             simp at e0)
          | fail)
        have t0 := set_cell (j := 1) s0 (.bool x)
        rw [HAl.out] at t0
        have t1 : (w3.setCell ⟨w.heap.size, 1, none⟩ (.bool x)).heap[w.heap.size + 1]? = _ := (Below.heap_setCell _ _ _ _ (by simp)).trans s1
        have BF : Below w.heap.size w (w3.setCell ⟨w.heap.size, 1, none⟩ (.bool x)) := B3.setCell (by simp) _
        go_roundg (5 - (1 + 1))
        case measure => have := HG.out; omega
        case rel => exact ⟨2, by omega, rfl, by go_num, by rw [HC1.out]; simp, BF, t0, t1⟩
    · have HNx : Hid (compC ts 3 = (compC ts 2 && !allC ts 2) ∧ allC ts 2 = !ts.any fun t => !clsT 2 t) := ⟨rfl, rfl⟩
      have HAl : Hid ((#[allV ts 2 0, allV ts 2 1, allV ts 2 2, allV ts 2 3, allV ts 2 4]).setIfInBounds 2 (.bool (allC ts 2)) = #[allV ts 3 0, allV ts 3 1, allV ts 3 2, allV ts 3 3, allV ts 3 4]) := by
        show _ = _
        simp [allV]
      have hcc := H2.out wr.heap.size (.slice ad (raws ts).length cap) (wr.alloc (.cells #[.func (.func 59) #[] #[]] 68 (0, 0))) (HV.out.up (below_more hbr _)) (blk_new _ _)
      have hA : (ts.any fun t => !clsT 2 t) = !allC ts 2 := by rw [HNx.out.2]; simp
      have hcc' : Calls Try.prog 36 #[.slice ad (raws ts).length cap, .func (.func 35) #[] #[.pointer (some ⟨wr.heap.size, 0, none⟩)]] (wr.alloc (.cells #[.func (.func 59) #[] #[]] 68 (0, 0))) fun e w' => e = .returned (.bool (!allC ts 2)) ∧ Below (wr.alloc (.cells #[.func (.func 59) #[] #[]] 68 (0, 0))).heap.size (wr.alloc (.cells #[.func (.func 59) #[] #[]] 68 (0, 0))) w' := by
        rw [← hA]; exact hcc
      have HX : Hid (Calls Try.prog 36 _ _ _) := hcc'
      have HC1 : Hid (compC ts 3 = (compC ts 2 && !allC ts 2)) := rfl
      generalize allC ts 2 = x at *
      obtain ⟨y, hy⟩ : ∃ y, y = compC ts 2 := ⟨_, rfl⟩
      rw [← hy] at HC1 ⊢
      have z2 := lt_of_block q2
      have z3 := lt_of_block q3
      clear hcc hcc' hA H0 H1 H2 H3 H4 HNx hy
      have hia := fun w => cls_at2 w
      cases y
      all_goals
        go_wp2_with (first
          | (go_at_call 36
             refine HX.out.mono ?_
             rintro e w3 ⟨rfl, hb3⟩
             have s0 := below_keep hb3 (alloc_keep q2 _)
             have s1 := below_keep hb3 (alloc_keep q3 _)
             have B3 := below_join (below_more hbr _) hb3
             have e0 := blk_cell s0 2
             have e1 := blk_fz s0 2
             simp at e0)
          | fail)
        have t0 := set_cell (j := 2) s0 (.bool x)
        rw [HAl.out] at t0
        have t1 : (w3.setCell ⟨w.heap.size, 2, none⟩ (.bool x)).heap[w.heap.size + 1]? = _ := (Below.heap_setCell _ _ _ _ (by simp)).trans s1
        have BF : Below w.heap.size w (w3.setCell ⟨w.heap.size, 2, none⟩ (.bool x)) := B3.setCell (by simp) _
        go_roundg (5 - (2 + 1))
        case measure => have := HG.out; omega
        case rel => exact ⟨3, by omega, rfl, by go_num, by rw [HC1.out]; simp, BF, t0, t1⟩
    · have HNx : Hid (compC ts 4 = (compC ts 3 && !allC ts 3) ∧ allC ts 3 = !ts.any fun t => !clsT 3 t) := ⟨rfl, rfl⟩
      have HAl : Hid ((#[allV ts 3 0, allV ts 3 1, allV ts 3 2, allV ts 3 3, allV ts 3 4]).setIfInBounds 3 (.bool (allC ts 3)) = #[allV ts 4 0, allV ts 4 1, allV ts 4 2, allV ts 4 3, allV ts 4 4]) := by
        show _ = _
        simp [allV]
      have hcc := H3.out wr.heap.size (.slice ad (raws ts).length cap) (wr.alloc (.cells #[.func (.func 60) #[] #[]] 68 (0, 0))) (HV.out.up (below_more hbr _)) (blk_new _ _)
      have hA : (ts.any fun t => !clsT 3 t) = !allC ts 3 := by rw [HNx.out.2]; simp
      have hcc' : Calls Try.prog 36 #[.slice ad (raws ts).length cap, .func (.func 35) #[] #[.pointer (some ⟨wr.heap.size, 0, none⟩)]] (wr.alloc (.cells #[.func (.func 60) #[] #[]] 68 (0, 0))) fun e w' => e = .returned (.bool (!allC ts 3)) ∧ Below (wr.alloc (.cells #[.func (.func 60) #[] #[]] 68 (0, 0))).heap.size (wr.alloc (.cells #[.func (.func 60) #[] #[]] 68 (0, 0))) w' := by
        rw [← hA]; exact hcc
      have HX : Hid (Calls Try.prog 36 _ _ _) := hcc'
      have HC1 : Hid (compC ts 4 = (compC ts 3 && !allC ts 3)) := rfl
      generalize allC ts 3 = x at *
      obtain ⟨y, hy⟩ : ∃ y, y = compC ts 3 := ⟨_, rfl⟩
      rw [← hy] at HC1 ⊢
      have z2 := lt_of_block q2
      have z3 := lt_of_block q3
      clear hcc hcc' hA H0 H1 H2 H3 H4 HNx hy
      have hia := fun w => cls_at3 w
      cases y
      all_goals
        go_wp2_with (first
          | (go_at_call 36
             refine HX.out.mono ?_
             rintro e w3 ⟨rfl, hb3⟩
             have s0 := below_keep hb3 (alloc_keep q2 _)
             have s1 := below_keep hb3 (alloc_keep q3 _)
             have B3 := below_join (below_more hbr _) hb3
             have e0 := blk_cell s0 3
             have e1 := blk_fz s0 3
             simp at e0)
          | fail)
        have t0 := set_cell (j := 3) s0 (.bool x)
        rw [HAl.out] at t0
        have t1 : (w3.setCell ⟨w.heap.size, 3, none⟩ (.bool x)).heap[w.heap.size + 1]? = _ := (Below.heap_setCell _ _ _ _ (by simp)).trans s1
        have BF : Below w.heap.size w (w3.setCell ⟨w.heap.size, 3, none⟩ (.bool x)) := B3.setCell (by simp) _
        go_roundg (5 - (3 + 1))
        case measure => have := HG.out; omega
        case rel => exact ⟨4, by omega, rfl, by go_num, by rw [HC1.out]; simp, BF, t0, t1⟩
    · have HNx : Hid (compC ts 5 = (compC ts 4 && !allC ts 4) ∧ allC ts 4 = !ts.any fun t => !clsT 4 t) := ⟨rfl, rfl⟩
      have HAl : Hid ((#[allV ts 4 0, allV ts 4 1, allV ts 4 2, allV ts 4 3, allV ts 4 4]).setIfInBounds 4 (.bool (allC ts 4)) = #[allV ts 5 0, allV ts 5 1, allV ts 5 2, allV ts 5 3, allV ts 5 4]) := by
        show _ = _
        simp [allV]
      have hcc := H4.out wr.heap.size (.slice ad (raws ts).length cap) (wr.alloc (.cells #[.func (.func 61) #[] #[]] 68 (0, 0))) (HV.out.up (below_more hbr _)) (blk_new _ _)
      have hA : (ts.any fun t => !clsT 4 t) = !allC ts 4 := by rw [HNx.out.2]; simp
      have hcc' : Calls Try.prog 36 #[.slice ad (raws ts).length cap, .func (.func 35) #[] #[.pointer (some ⟨wr.heap.size, 0, none⟩)]] (wr.alloc (.cells #[.func (.func 61) #[] #[]] 68 (0, 0))) fun e w' => e = .returned (.bool (!allC ts 4)) ∧ Below (wr.alloc (.cells #[.func (.func 61) #[] #[]] 68 (0, 0))).heap.size (wr.alloc (.cells #[.func (.func 61) #[] #[]] 68 (0, 0))) w' := by
        rw [← hA]; exact hcc
      have HX : Hid (Calls Try.prog 36 _ _ _) := hcc'
      have HC1 : Hid (compC ts 5 = (compC ts 4 && !allC ts 4)) := rfl
      generalize allC ts 4 = x at *
      obtain ⟨y, hy⟩ : ∃ y, y = compC ts 4 := ⟨_, rfl⟩
      rw [← hy] at HC1 ⊢
      have z2 := lt_of_block q2
      have z3 := lt_of_block q3
      clear hcc hcc' hA H0 H1 H2 H3 H4 HNx hy
      have hia := fun w => cls_at4 w
      cases y
      all_goals
        go_wp2_with (first
          | (go_at_call 36
             refine HX.out.mono ?_
             rintro e w3 ⟨rfl, hb3⟩
             have s0 := below_keep hb3 (alloc_keep q2 _)
             have s1 := below_keep hb3 (alloc_keep q3 _)
             have B3 := below_join (below_more hbr _) hb3
             have e0 := blk_cell s0 4
             have e1 := blk_fz s0 4
             simp at e0)
          | fail)
        have t0 := set_cell (j := 4) s0 (.bool x)
        rw [HAl.out] at t0
        have t1 : (w3.setCell ⟨w.heap.size, 4, none⟩ (.bool x)).heap[w.heap.size + 1]? = _ := (Below.heap_setCell _ _ _ _ (by simp)).trans s1
        have BF : Below w.heap.size w (w3.setCell ⟨w.heap.size, 4, none⟩ (.bool x)) := B3.setCell (by simp) _
        go_roundg (5 - (4 + 1))
        case measure => have := HG.out; omega
        case rel => exact ⟨5, by omega, rfl, by go_num, by rw [HC1.out]; simp, BF, t0, t1⟩
end Go.Proofs.Ytknngeojhiejnab
/- Walks: two formulas made one. -/
namespace Go.Proofs.Ytknngeojhiejnab
open Go.RowKit Go.Sort

set_option maxHeartbeats 1000000 in
theorem both_any (k : Int) (f g : Fm) (v u : Value) (w : World) (hv : Rep w (fun _ => True) f v) (hu : Rep w (fun _ => True) g u) :
    Calls Try.prog 25 #[.int .i64 k, v, u] w fun e w' => ∃ x, e = .returned x ∧ Rep w' (fun _ => True) (.mk k ⟨#[]⟩ [f, g]) x ∧ Below w.heap.size w w' := by
  obtain ⟨k1, n1, ks1⟩ := f
  obtain ⟨k2, n2, ks2⟩ := g
  obtain ⟨sl1, cp1, rfl⟩ := slice_shape hv
  obtain ⟨sl2, cp2, rfl⟩ := slice_shape hu
  have HV : Hid (Rep w (fun _ => True) (.mk k1 n1 ks1) (.agg #[.int .i64 k1, .string n1, .slice sl1 ks1.length cp1])) := hv
  have HU : Hid (Rep w (fun _ => True) (.mk k2 n2 ks2) (.agg #[.int .i64 k2, .string n2, .slice sl2 ks2.length cp2])) := hu
  clear hv hu
  go_enter Try.func25, Try.ntmps25
  go_wp2_with fail
  have q := blk_new (((w.alloc (.cells #[.int .i64 k1, .string n1, .slice sl1 ks1.length cp1] 37 (0, 0))).alloc (.cells #[.int .i64 k2, .string n2, .slice sl2 ks2.length cp2] 37 (0, 0))).alloc (.cells #[.int .i64 k, .string ⟨#[]⟩, .slice (some ⟨w.heap.size + 1 + 1 + 1, 0, none⟩) 2 2] 37 (0, 0))) (.cells #[.int .i64 k1, .string n1, .slice sl1 ks1.length cp1, .int .i64 k2, .string n2, .slice sl2 ks2.length cp2] 37 (0, 0))
  rw [show (((w.alloc (.cells #[.int .i64 k1, .string n1, .slice sl1 ks1.length cp1] 37 (0, 0))).alloc (.cells #[.int .i64 k2, .string n2, .slice sl2 ks2.length cp2] 37 (0, 0))).alloc (.cells #[.int .i64 k, .string ⟨#[]⟩, .slice (some ⟨w.heap.size + 1 + 1 + 1, 0, none⟩) 2 2] 37 (0, 0))).heap.size = w.heap.size + 1 + 1 + 1 by simp] at q
  have B := below_more (below_more (below_more (below_more (Below.refl _ w) (.cells #[.int .i64 k1, .string n1, .slice sl1 ks1.length cp1] 37 (0, 0))) (.cells #[.int .i64 k2, .string n2, .slice sl2 ks2.length cp2] 37 (0, 0))) (.cells #[.int .i64 k, .string ⟨#[]⟩, .slice (some ⟨w.heap.size + 1 + 1 + 1, 0, none⟩) 2 2] 37 (0, 0))) (.cells #[.int .i64 k1, .string n1, .slice sl1 ks1.length cp1, .int .i64 k2, .string n2, .slice sl2 ks2.length cp2] 37 (0, 0))
  exact bodyPost_ret (v := .agg #[.int .i64 k, .string ⟨#[]⟩, .slice (some ⟨w.heap.size + 1 + 1 + 1, 0, none⟩) 2 2]) (by simp [results, Try.results25, go_sem]) rfl ⟨_, rfl, Rep.two q trivial (HV.out.up B) (HU.out.up B), B⟩

/-! The document's examples. -/
def fP : Fm := .mk 1 ⟨#[112]⟩ []
def fQ : Fm := .mk 1 ⟨#[113]⟩ []
def fPQ : Fm := .mk 7 ⟨#[]⟩ [fP, fQ]

theorem fPQ_fine : Fine fPQ := fine_two 7 fP fQ (by decide) (by have := fine_name (l := [112]) (by decide); exact this) (by have := fine_name (l := [113]) (by decide); exact this)
theorem fPQ_size : fPQ.size = 3 := by simp [fPQ, fP, fQ, Fm.size, Fm.sizes]
theorem fPQ_nodes : allN fPQ = [fPQ, fP, fQ] := by
  unfold fPQ
  rw [allN_two]
  unfold fP fQ
  rw [allN_leaf, allN_leaf]
  rfl
theorem fPQ_chk : chk fPQ 0 = .ok (0 + fPQ.size) := chk_fine fPQ 0 fPQ_fine (by rw [fPQ_size]; omega)
theorem fPQ_plain : Plain fPQ := by
  rw [plain_iff, fPQ_nodes]
  intro g hg
  simp at hg
  rcases hg with rfl | rfl | rfl <;> decide
theorem fPQ_names : nmsU fPQ = [[112], [113]] := by
  refine rising_ext (nmsU_rising _) (by decide) fun t => ?_
  rw [nmsU_mem]
  unfold nmsT
  rw [fPQ_nodes]
  simp [nmsOf, fPQ, fP, fQ]
theorem fPQ_ncode : fPQ.ncode = (0, 0) := by
  unfold Fm.ncode
  rw [pcode_of fPQ_chk fPQ_plain, fPQ_names]
  rfl
theorem fPQ_col : colL fPQ [[112], [113]] = [true, false, true, true] := by
  unfold colL
  have : ∀ r, tv (colP r [[112], [113]]) fPQ = (!(colP r [[112], [113]] [112]) || colP r [[112], [113]] [113]) := fun r => by
    unfold fPQ
    rw [tv_then]
    unfold fP fQ
    rw [tv_name, tv_name]
  simp only [this]
  decide

theorem nand_tq {w : World} {b c : Nat} {T T' : TypeId} (hb : w.heap[b]? = some (.cells #[.bool true, .bool true, .bool true, .bool false] T (0, 0))) (hc : w.heap[c]? = some (.cells #[.int .i64 2, .slice (some ⟨b, 0, none⟩) 4 4] T' (0, 0))) : TQ w (.slice (some ⟨c, 0, none⟩) 1 1) (raws [⟨2, [true, true, true, false]⟩]) := by
  refine ⟨some ⟨c, 0, none⟩, 1, rfl, by decide, by simp [maxLen], fun _ => ⟨c, 0, rfl, fun j t ht => ?_⟩⟩
  rcases j with _ | j
  · simp [raws] at ht
    subst ht
    refine ⟨some ⟨b, 0, none⟩, 4, blk_cell hc 0, blk_cell hc 1, some ⟨b, 0, none⟩, 4, rfl, by decide, by simp [maxLen], fun _ => ⟨b, 0, rfl, fun i x hx => ?_⟩⟩
    rw [Nat.zero_add, blk_cell hb]
    rcases i with _ | _ | _ | _ | i <;> simp at hx ⊢ <;> exact hx
  · simp [raws] at ht
theorem one_text {w : World} {b : Nat} {T : TypeId} {t : List UInt8} (hb : w.heap[b]? = some (.cells #[.string ⟨t.toArray⟩] T (0, 0))) : TL w (.slice (some ⟨b, 0, none⟩) 1 1) [t] := by
  refine ⟨some ⟨b, 0, none⟩, 1, rfl, by simp, by simp [maxLen], fun _ => ⟨b, rfl, fun j x hx => ?_⟩⟩
  rcases j with _ | j
  · simp at hx; subst hx; exact blk_cell hb 0
  · simp at hx

set_option maxHeartbeats 4000000 in
theorem truthBegun_any (w : World) : Calls Try.prog 10 #[] w fun e w' => e = .returned (.bool true) ∧ Below w.heap.size w w' := by
  have hva := fun v (w : World) h => valid_yes fPQ (by rw [fPQ_ncode]) v w h
  rw [fPQ_names, fPQ_col] at hva
  have e1 : (if false ∈ [true, false, true, true] then rowN ([true, false, true, true].idxOf false) [[112], [113]] 0 else []) = [[112]] := by decide
  have e2 : decide (false ∉ [true, false, true, true]) = false := by decide
  rw [e1, e2] at hva
  have hco := fun v (w : World) h => complete_yes [⟨2, [true, true, true, false]⟩] (by decide) (fun t ht => by simp at ht; subst ht; exact ⟨by decide, by decide⟩) v w h
  have e3 : compC [⟨2, [true, true, true, false]⟩] 5 = true := by decide
  have e4 : allV [⟨2, [true, true, true, false]⟩] 5 0 = .bool false ∧ allV [⟨2, [true, true, true, false]⟩] 5 1 = .bool false ∧ allV [⟨2, [true, true, true, false]⟩] 5 2 = .bool false ∧ allV [⟨2, [true, true, true, false]⟩] 5 3 = .bool false ∧ allV [⟨2, [true, true, true, false]⟩] 5 4 = .bool false := by
    refine ⟨?_, ?_, ?_, ?_, ?_⟩ <;> rfl
  rw [e3, e4.1, e4.2.1, e4.2.2.1, e4.2.2.2.1, e4.2.2.2.2] at hco
  have HVa : Hid (∀ v w, Rep w (fun _ => True) fPQ v → Calls Try.prog 24 #[v] w _) := hva
  have HCo : Hid (∀ v w, TQ w v (raws [⟨2, [true, true, true, false]⟩]) → Calls Try.prog 8 #[v] w _) := hco
  clear hva hco e1 e2 e3 e4
  go_enter Try.func10, Try.ntmps10
  go_wp2_with (first
    | (go_at_call 37
       have x2 := hb1
       refine (named_any _ _).mono ?_
       rintro e w2 ⟨rfl, hb2⟩
       have B2 := below_join hb1 hb2)
    | (go_at_call 37
       refine (named_any _ _).mono ?_
       rintro e w1 ⟨rfl, hb1⟩)
    | (go_at_call 25
       refine (both_any 7 fP fQ _ _ _ (Rep.leaf (by decide)) (Rep.leaf (by decide))).mono ?_
       rintro e w3 ⟨x, rfl, hr3, hb3⟩
       have B3 := below_join B2 hb3)
    | (go_at_call 24
       refine (HVa.out _ _ hr3).mono ?_
       rintro e w4 ⟨x, rfl, htl, hb4⟩
       have HTL : Hid (TL w4 x [[112]]) := htl
       obtain ⟨adT, cpT, rfl, -⟩ := htl
       have B4 := below_join B3 hb4)
    | (go_at_call 8
       have m1 := blk_sec w4 (.cells #[.int .i64 0, .int .i64 0] 25 (0, 0)) (.cells #[.bool true, .bool true, .bool true, .bool false] 4 (0, 0))
       have m2 := blk_sec (w4.alloc (.cells #[.int .i64 0, .int .i64 0] 25 (0, 0))) (.cells #[.bool true, .bool true, .bool true, .bool false] 4 (0, 0)) (.cells #[.int .i64 2, .slice (some ⟨w4.heap.size + 1, 0, none⟩) 4 4] 33 (0, 0))
       rw [show (w4.alloc (.cells #[.int .i64 0, .int .i64 0] 25 (0, 0))).heap.size = w4.heap.size + 1 by simp] at m2
       refine (HCo.out _ _ (nand_tq (alloc_keep m1 _) m2)).mono ?_
       rintro e w5 ⟨rfl, hb5⟩
       have q4 := below_keep hb5 (alloc_keep (alloc_keep (blk_new w4 (.cells #[.int .i64 0, .int .i64 0] 25 (0, 0))) _) _)
       have B5 := below_join (below_more (below_more (below_more B4 _) _) _) hb5
       have HTL5 : Hid (TL w5 (.slice adT 1 cpT) [[112]]) := (HTL.out.up (((below_more (below_more (below_more (Below.refl _ w4) _) _) _)))).up hb5
       obtain ⟨k1, k2, -⟩ := blk2 q4
       have l4 := lt_of_block q4)
    | (go_at_call 38
       have m3 := blk_new ((w5.alloc (.cells #[.bool false, .bool false, .bool false, .bool false, .bool false] 23 (0, 0))).alloc (.cells #[.int .i64 0, .int .i64 0] 25 (0, 0))) (.cells #[.string ⟨#[112]⟩] 9 (0, 0))
       rw [show ((w5.alloc (.cells #[.bool false, .bool false, .bool false, .bool false, .bool false] 23 (0, 0))).alloc (.cells #[.int .i64 0, .int .i64 0] 25 (0, 0))).heap.size = w5.heap.size + 1 + 1 by simp] at m3
       refine (texts_same [[112]] _ _ _ (HTL5.out.up (below_more (below_more (below_more (Below.refl _ w5) _) _) _)) (one_text m3)).mono ?_
       rintro e w6 ⟨rfl, hb6⟩
       have B6 := below_join (below_more (below_more (below_more B5 _) _) _) hb6)
    | fail)
  go_ret
  exact ⟨rfl, B6⟩
end Go.Proofs.Ytknngeojhiejnab
/- Walks: the yardstick's HasText, True, Row. -/
namespace Go.Proofs.Ytknngeojhiejnab
open Go.RowKit Go.Sort

set_option maxHeartbeats 1000000 in
theorem hasText_sl (l : List (List UInt8)) (t : List UInt8) (v : Value) (w : World) (h : SL w v l) :
    Calls Try.prog 18 #[v, .string ⟨t.toArray⟩] w fun e w' => e = .returned (.bool (decide (t ∈ l))) ∧ w' = w := by
  obtain ⟨ad, cap, rfl, h1, h2, h3⟩ := h
  have hlI : (l.length : Int) ≤ 9223372036854775807 := by unfold maxLen at h2; omega
  have H3 : Hid (l ≠ [] → ∃ g off, ad = some ⟨g, off, none⟩ ∧ ∀ (j : Nat) (t : List UInt8), l[j]? = some t → w.cell? ⟨g, off + j, none⟩ = some (.string ⟨t.toArray⟩)) := h3
  clear h3
  go_enter Try.func18, Try.ntmps18
  go_wp2_with fail
  go_loopg [5] l.length (fun g c wr => ∃ i, i ≤ l.length ∧ g = l.length - i ∧ c = .int .i64 (i : Nat) ∧ wr = w ∧ Hid (t ∉ l.take i))
  case atStart => exact ⟨0, by omega, by omega, rfl, rfl, by show _ ∉ _; simp⟩
  case round =>
    obtain ⟨i, hi, hg, rfl, rfl, HN⟩ := hrel
    have HG : Hid (gk = l.length - i) := hg
    clear hg
    by_cases hlt : i < l.length
    · obtain ⟨x, hx⟩ : ∃ x, l[i]? = some x := ⟨_, List.getElem?_eq_getElem hlt⟩
      obtain ⟨g, off, rfl, hc⟩ := H3.out (fun e => by rw [e] at hlt; simp at hlt)
      have g0 := hc i x hx
      have hltI : (i : Int) < (l.length : Int) := by omega
      have hlc : (i : Int) < (cap : Int) := by omega
      have HX : Hid (l[i]? = some x) := hx
      clear hc hx H3
      by_cases hxt : x = t
      · subst hxt
        have HD : Hid (decide (x ∈ l) = true) := by
          show _ = _
          exact decide_eq_true (List.mem_of_getElem? HX.out)
        go_wp2_with fail
        go_ret
        exact ⟨by rw [HD.out]; rfl, rfl⟩
      · have hne : ((⟨x.toArray⟩ : ByteArray).toList == (⟨t.toArray⟩ : ByteArray).toList) = false := by
          rw [beq_eq_false_iff_ne, Ne, txt_eq]; exact hxt
        have HNN : Hid (t ∉ l.take (i + 1)) := by
          show _ ∉ _
          rw [List.take_add_one, HX.out]
          intro hm
          rcases List.mem_append.1 hm with h | h
          · exact HN.out h
          · simp at h; exact hxt h.symm
        generalize hb : (⟨x.toArray⟩ : ByteArray) = X at *
        generalize hb2 : (⟨t.toArray⟩ : ByteArray) = Y at *
        clear hb hb2 HX
        go_wp2_with fail
        go_roundg (l.length - (i + 1))
        case measure => have := HG.out; omega
        case rel => exact ⟨i + 1, by omega, rfl, by go_num, rfl, HNN⟩
    · have HD : Hid (decide (t ∈ l) = false) := by
        show _ = _
        have := HN.out
        rw [List.take_of_length_le (by omega)] at this
        exact decide_eq_false this
      have hge : ¬ (i : Int) < (l.length : Int) := by omega
      clear H3 HN
      go_wp2_with fail
      go_ret
      exact ⟨by rw [HD.out]; rfl, rfl⟩

/-! The yardstick's row. -/
theorem half_bit (r i : Nat) : (r / 2 ^ i % 2 = 1) ↔ r.testBit i = true := by
  rw [Nat.testBit_eq_decide_div_mod_eq]; simp

set_option maxHeartbeats 2000000 in
theorem row_any (r : Nat) (hr : r ≤ 100000) (l : List (List UInt8)) (hl : l.length ≤ 1000) (u : Value) (w : World) (hu : SL w u l) :
    Calls Try.prog 21 #[u, .int .i64 (r : Nat)] w fun e w' => ∃ x, e = .returned x ∧ TL w' x (rowN r l 0) ∧ Below w.heap.size w w' := by
  obtain ⟨ad, cap, rfl, h1, h2, h3⟩ := hu
  have hlI : (l.length : Int) ≤ 1000 := by omega
  have H3 : Hid (l ≠ [] → ∃ g off, ad = some ⟨g, off, none⟩ ∧ ∀ (j : Nat) (t : List UInt8), l[j]? = some t → w.cell? ⟨g, off + j, none⟩ = some (.string ⟨t.toArray⟩)) := h3
  obtain ⟨i0, hi, hz0, hz1, hz2⟩ := infoText
  clear h3
  go_enter Try.func21, Try.ntmps21
  go_wp2_with fail
  go_loopg [6, 5, 1] l.length (fun g c o k wr => ∃ i ad cy, i ≤ l.length ∧ g = l.length - i ∧ c = .int .i64 (i : Nat) ∧ k = .int .i64 ((r / 2 ^ i : Nat) : Int) ∧ o = .slice ad (rowN r (l.take i) 0).length cy ∧ Below w.heap.size w wr ∧ Hid (KS w.heap.size wr ad cy (rowN r (l.take i) 0)))
  case atStart => exact ⟨0, none, 0, by omega, by omega, rfl, by simp, rfl, Below.refl _ _, KS.nil⟩
  case round =>
    obtain ⟨i, ad', cy, hile, hg, rfl, rfl, rfl, hbr, HK⟩ := hrel
    have HG : Hid (gk = l.length - i) := hg
    clear hg
    by_cases hlt : i < l.length
    · obtain ⟨t, ht⟩ : ∃ x, l[i]? = some x := ⟨_, List.getElem?_eq_getElem hlt⟩
      obtain ⟨g, off, rfl, hc⟩ := H3.out (fun e => by rw [e] at hlt; simp at hlt)
      have g0 := (hbr.cell (p := ⟨g, off + i, none⟩) (lt_of_cell (hc i t ht))).trans (hc i t ht)
      have hltI : (i : Int) < (l.length : Int) := by omega
      have hlc : (i : Int) < (cap : Int) := by omega
      have hti : (l.take i).length = i := by rw [List.length_take]; omega
      have hT : rowN r (l.take (i + 1)) 0 = rowN r (l.take i) 0 ++ if r.testBit i then [t] else [] := by
        rw [List.take_add_one, ht]
        show rowN r (_ ++ [t]) 0 = _
        rw [rowN_snoc, hti, Nat.zero_add]
      have hRl := rowN_len r (l.take i) 0
      have hdv : r / 2 ^ (i + 1) = r / 2 ^ i / 2 := by rw [Nat.pow_succ, Nat.div_div_eq_div_mul]
      have hkb : r / 2 ^ i ≤ 100000 := Nat.le_trans (Nat.div_le_self _ _) hr
      have hbit := half_bit r i
      generalize hR : rowN r (l.take i) 0 = R at *
      rw [hti] at hRl
      have HDv : Hid (r / 2 ^ (i + 1) = r / 2 ^ i / 2) := hdv
      generalize hk : r / 2 ^ i = k at *
      have hkI : (k : Int) ≤ 100000 := by omega
      clear hc ht H3 hR hdv hk hr
      rcases hb : r.testBit i with _ | _
      · rw [hb] at hT hbit
        have HT : Hid (rowN r (l.take (i + 1)) 0 = R) := by
          show _ = _
          rw [hT]; simp
        have hkm : ((k : Int) % 2 == 1) = false := by
          have : ¬ k % 2 = 1 := fun h => by simpa using hbit.1 h
          simp; omega
        have hkm2 : ¬ (k : Int) % 2 = 1 := by
          have : ¬ k % 2 = 1 := fun h => by simpa using hbit.1 h
          omega
        clear hT hb hbit
        go_wp2_with fail
        go_roundg (l.length - (i + 1))
        case measure => have := HG.out; omega
        case rel => exact ⟨i + 1, ad', cy, by omega, rfl, by go_num, by rw [HDv.out]; go_num, by rw [HT.out], hbr, by show KS _ _ _ _ _; rw [HT.out]; exact HK.out⟩
      · rw [hb] at hT hbit
        have HT : Hid (rowN r (l.take (i + 1)) 0 = R ++ [t]) := by
          show _ = _
          rw [hT]; simp
        have hkm : ((k : Int) % 2 == 1) = true := by
          have : k % 2 = 1 := hbit.2 rfl
          simp; omega
        have hkm2 : (k : Int) % 2 = 1 := by
          have : k % 2 = 1 := hbit.2 rfl
          omega
        clear hT hb hbit
        go_wp2_with (first
          | (at_builtin
             refine wpList_append_lies _ rfl _ _ 38 rfl w.heap.size 9 i0 (.string ⟨#[]⟩) 1 16 Try.underlying38 hi hz0 hz1 hz2 rfl (by decide) _ _ _ rfl (owns_up HK.out ((Below.refl _ wr).alloc (Nat.le_refl _) (.cells #[.string ⟨t.toArray⟩] 9 (0, 0)))) ⟨wr.heap.size, 0, none⟩ 1 1 [.string ⟨t.toArray⟩] rfl rfl ?_ ?_ (by omega) (by unfold maxLen; omega) (by omega) (by have := hbr.size; simp; omega) _ rfl ?_
             · intro j u hu
               rw [add_none, Nat.zero_add, blk_cell (blk_new wr _)]
               simpa using hu
             · intro u hu
               simp at hu
               rcases hu with rfl; rfl
             intro g5 cp5 w5 hown5 hgrow5 hat5 hlt5
             have BF := below_grown hbr hbr.size HK.out hgrow5
             have HKN : Hid (KS w.heap.size w5 (some ⟨g5, 0, none⟩) cp5 (R ++ [t])) := by
               show KS _ _ _ _ _
               unfold KS
               rw [List.map_append, List.length_append]
               exact hown5
             clear hown5 hgrow5 hat5)
          | fail)
        go_roundg (l.length - (i + 1))
        case measure => have := HG.out; omega
        case rel => exact ⟨i + 1, some ⟨g5, 0, none⟩, cp5, by omega, rfl, by go_num, by rw [HDv.out]; go_num, by rw [HT.out, List.length_append]; rfl, BF, by show KS _ _ _ _ _; rw [HT.out]; exact HKN.out⟩
    · have HKE : Hid (KS w.heap.size wr ad' cy (rowN r l 0)) := by
        have := HK.out
        rw [List.take_of_length_le (by omega)] at this
        exact this
      have hTE : rowN r (l.take i) 0 = rowN r l 0 := by rw [List.take_of_length_le (by omega)]
      have hge : ¬ (i : Int) < (l.length : Int) := by omega
      clear HK H3
      rw [hTE]
      clear hTE
      go_wp2_with fail
      go_ret
      exact ⟨_, rfl, HKE.out.list, hbr⟩
end Go.Proofs.Ytknngeojhiejnab
