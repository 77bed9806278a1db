/- Texts of one proof, one behind the other: TC6. -/
import Derived.Test.YtlmjnglcdgkomaaB19
/- Walks: Complete, its answer. -/
namespace Go.Proofs.Ytlmjnglcdgkomaa
open Go.RowKit

/-- Post's classes, by number. -/
def clsT (i : Nat) (t : Tb) : Bool := match i with
  | 0 => cls0 t.bits
  | 1 => cls1 t.bits
  | 2 => cls2 t.bits
  | 3 => cls3 t.n t.bits
  | _ => cls4 t.n t.bits
def allC (ts : List Tb) (i : Nat) : Bool := !ts.any fun t => !clsT i t
def compC (ts : List Tb) : Nat → Bool
  | 0 => true
  | i + 1 => compC ts i && !allC ts i
def allV (ts : List Tb) (i j : Nat) : Value := .bool (decide (j < i) && allC ts j)

theorem TQ.len {w : World} {v : Value} {ts : List (Int × List Bool)} (h : TQ w v ts) : ∃ ad cap, v = .slice ad ts.length cap := by
  obtain ⟨ad, cap, h1, -⟩ := h; exact ⟨ad, cap, h1⟩

theorem tbad_ok {t : Tb} (h : t.Ok) : tbad ((t.n : Int), t.bits) = 0 := by
  unfold tbad; (rw [if_neg (by have := h.1; simp only; omega)]); have := h.2; simp [this]
theorem tfirst_ok : ∀ (ts : List Tb) (i : Nat), (∀ t ∈ ts, t.Ok) → tfirst (raws ts) i = (0, 0)
  | [], i, _ => rfl
  | t :: ts, i, h => by
    show tfirst (((t.n : Int), t.bits) :: raws ts) i = _; rw [tfirst, tbad_ok (h t (List.mem_cons_self ..)), if_pos rfl]; (exact tfirst_ok ts (i + 1) fun x hx => h x (List.mem_cons_of_mem _ hx))

theorem cls_at0 (w : World) : (Instr.index 130 (.agg #[.func (.func 124) #[] #[], .func (.func 125) #[] #[], .func (.func 126) #[] #[], .func (.func 127) #[] #[], .func (.func 128) #[] #[]]) (.int .i64 0)).run Try.prog w = .ok (.func (.func 124) #[] #[]) w := by kernel_rfl
theorem cls_at1 (w : World) : (Instr.index 130 (.agg #[.func (.func 124) #[] #[], .func (.func 125) #[] #[], .func (.func 126) #[] #[], .func (.func 127) #[] #[], .func (.func 128) #[] #[]]) (.int .i64 1)).run Try.prog w = .ok (.func (.func 125) #[] #[]) w := by kernel_rfl
theorem cls_at2 (w : World) : (Instr.index 130 (.agg #[.func (.func 124) #[] #[], .func (.func 125) #[] #[], .func (.func 126) #[] #[], .func (.func 127) #[] #[], .func (.func 128) #[] #[]]) (.int .i64 2)).run Try.prog w = .ok (.func (.func 126) #[] #[]) w := by kernel_rfl
theorem cls_at3 (w : World) : (Instr.index 130 (.agg #[.func (.func 124) #[] #[], .func (.func 125) #[] #[], .func (.func 126) #[] #[], .func (.func 127) #[] #[], .func (.func 128) #[] #[]]) (.int .i64 3)).run Try.prog w = .ok (.func (.func 127) #[] #[]) w := by kernel_rfl
theorem cls_at4 (w : World) : (Instr.index 130 (.agg #[.func (.func 124) #[] #[], .func (.func 125) #[] #[], .func (.func 126) #[] #[], .func (.func 127) #[] #[], .func (.func 128) #[] #[]]) (.int .i64 4)).run Try.prog w = .ok (.func (.func 128) #[] #[]) w := by kernel_rfl

set_option maxHeartbeats 8000000 in
theorem complete_yes (ts : List Tb) (hl : ts.length ≤ 20) (hok : ∀ t ∈ ts, t.Ok) (v : Value) (w : World) (hv : TQ w v (raws ts)) :
    Calls Try.prog 66 #[v] w fun e w' => e = .returned (.tuple #[.bool (compC ts 5), .agg #[allV ts 5 0, allV ts 5 1, allV ts 5 2, allV ts 5 3, allV ts 5 4], .agg #[.int .i64 0, .int .i64 0]]) ∧ Below w.heap.size w w' := by
  (have htf := fun v (w : World) h => tablesFault_any (raws ts) v w h)
  have htc : tcode (raws ts) = (0, 0) := by
    unfold tcode; (rw [if_neg (by simp [raws]; omega)]); exact tfirst_ok ts 0 hok
  rw [htc] at htf; have HTf : Hid (∀ v w, TQ w v (raws ts) → Calls Try.prog 96 #[v] w _) := htf; (have H0 : Hid (∀ cb v w, TQ w v (raws ts) → OkF cb 124 w → Calls Try.prog 99 _ w _) := fun cb v w h o => contains_tab (predC pred0 cb) ts hok v w h o); (have H1 : Hid (∀ cb v w, TQ w v (raws ts) → OkF cb 125 w → Calls Try.prog 99 _ w _) := fun cb v w h o => contains_tab (predC pred1 cb) ts hok v w h o); (have H2 : Hid (∀ cb v w, TQ w v (raws ts) → OkF cb 126 w → Calls Try.prog 99 _ w _) := fun cb v w h o => contains_tab (predC pred2 cb) ts hok v w h o); (have H3 : Hid (∀ cb v w, TQ w v (raws ts) → OkF cb 127 w → Calls Try.prog 99 _ w _) := fun cb v w h o => contains_tab (predC pred3 cb) ts hok v w h o); (have H4 : Hid (∀ cb v w, TQ w v (raws ts) → OkF cb 128 w → Calls Try.prog 99 _ w _) := fun cb v w h o => contains_tab (predC pred4 cb) ts hok v w h o); (have HCl : Hid (∀ w, Calls Try.prog 97 #[] w _) := fun w => classes_any w); have HV : Hid (TQ w v (raws ts)) := hv; obtain ⟨ad, cap, rfl⟩ := hv.len; (have hmf : ∀ (fn : Fn) (first cap : Array Value) (w : World), (Instr.makeFunc fn first cap).run Try.prog w = .ok (.func fn first cap) w := fun _ _ _ _ => rfl); clear htf htc hv hl
  go_enter Try.func66, Try.ntmps66
  go_wp2_with (first
    | (go_at_call 96
       refine (HTf.out _ _ (HV.out.up (below_more (below_more (Below.refl _ w) _) _))).mono ?_; rintro e w1 ⟨rfl, hb1⟩; have z1 := hb1.size; simp at z1; have q0 := below_keep hb1 (alloc_keep (blk_new w _) _); have q1 := below_keep hb1 (blk_new (w.alloc _) _); (rw [show (w.alloc _).heap.size = w.heap.size + 1 by simp] at q1)
       have B1 := below_join (below_more (below_more (Below.refl _ w) _) _) hb1)
    | (go_at_call 97
       refine (HCl.out _).mono ?_; rintro e w2 ⟨rfl, hb2⟩; have r0 := below_keep hb2 (alloc_keep q0 _); have r1 := below_keep hb2 (alloc_keep q1 _)
       have B2 := below_join (below_more B1 _) hb2)
    | fail)
  go_loopg [17, 2] 5 (fun gk c b wr => ∃ i, i ≤ 5 ∧ gk = 5 - i ∧ c = .int .i64 (i : Nat) ∧ b = .bool (compC ts i) ∧ Below w.heap.size w wr ∧ wr.heap[w.heap.size]? = some (.cells #[allV ts i 0, allV ts i 1, allV ts i 2, allV ts i 3, allV ts i 4] 96 (0, 0)) ∧ wr.heap[w.heap.size + 1]? = some (.cells #[.int .i64 0, .int .i64 0] 29 (0, 0)))
  case atStart => exact ⟨0, by omega, by omega, rfl, rfl, B2, r0, r1⟩
  case round =>
    obtain ⟨i, hi, hg, rfl, rfl, hbr, q2, q3⟩ := hrel; have HG : Hid (gk = 5 - i) := hg; clear hg; (have hi5 : i = 5 ∨ i = 0 ∨ i = 1 ∨ i = 2 ∨ i = 3 ∨ i = 4 := by omega)
    rcases hi5 with rfl | rfl | rfl | rfl | rfl | rfl
    · have HVs : Hid (allV ts 5 0 = .bool (allC ts 0) ∧ allV ts 5 1 = .bool (allC ts 1) ∧ allV ts 5 2 = .bool (allC ts 2) ∧ allV ts 5 3 = .bool (allC ts 3) ∧ allV ts 5 4 = .bool (allC ts 4)) := by
        (refine ⟨?_, ?_, ?_, ?_, ?_⟩ <;> simp [allV])
      rw [HVs.out.1, HVs.out.2.1, HVs.out.2.2.1, HVs.out.2.2.2.1, HVs.out.2.2.2.2] at q2; generalize allC ts 0 = x0 at *; generalize allC ts 1 = x1 at *; generalize allC ts 2 = x2 at *; generalize allC ts 3 = x3 at *; generalize allC ts 4 = x4 at *; have z2 := lt_of_block q2; have z3 := lt_of_block q3; have c0 := blk_cell q2 0; have c1 := blk_cell q2 1; have c2 := blk_cell q2 2; have c3 := blk_cell q2 3; have c4 := blk_cell q2 4; have f0 := blk_fz q2 0; have f1 := blk_fz q2 1; have f2 := blk_fz q2 2; have f3 := blk_fz q2 3; have f4 := blk_fz q2 4; simp at c0 c1 c2 c3 c4; obtain ⟨k1, k2, k3, k4⟩ := blk2 q3; clear H0 H1 H2 H3 H4; go_wp2_with fail
      go_region
      all_goals go_wp2
      have BF : Below w.heap.size w (((((((wr.setCell ⟨w.heap.size, 0, none⟩ (.bool x0)).setCell ⟨w.heap.size, 1, none⟩ (.bool x1)).setCell ⟨w.heap.size, 2, none⟩ (.bool x2)).setCell ⟨w.heap.size, 3, none⟩ (.bool x3)).setCell ⟨w.heap.size, 4, none⟩ (.bool x4)).setCell ⟨w.heap.size + 1, 0, none⟩ (.int .i64 0)).setCell ⟨w.heap.size + 1, 1, none⟩ (.int .i64 0)) :=
        ((((((hbr.setCell (by simp) _).setCell (by simp) _).setCell (by simp) _).setCell (by simp) _).setCell (by simp) _).setCell (by simp) _).setCell (by simp) _
      have g0 : (((((((wr.setCell ⟨w.heap.size, 0, none⟩ (.bool x0)).setCell ⟨w.heap.size, 1, none⟩ (.bool x1)).setCell ⟨w.heap.size, 2, none⟩ (.bool x2)).setCell ⟨w.heap.size, 3, none⟩ (.bool x3)).setCell ⟨w.heap.size, 4, none⟩ (.bool x4)).setCell ⟨w.heap.size + 1, 0, none⟩ (.int .i64 0)).setCell ⟨w.heap.size + 1, 1, none⟩ (.int .i64 0)).heap[w.heap.size]? = some (.cells #[.bool x0, .bool x1, .bool x2, .bool x3, .bool x4] 96 (0, 0)) := by
        (rw [Below.heap_setCell _ _ _ _ (by simp), Below.heap_setCell _ _ _ _ (by simp)]); have := set_cell (j := 4) (set_cell (j := 3) (set_cell (j := 2) (set_cell (j := 1) (set_cell (j := 0) q2 (.bool x0)) (.bool x1)) (.bool x2)) (.bool x3)) (.bool x4); rw [this]
        simp
      have g1 := set2 (show (((((wr.setCell ⟨w.heap.size, 0, none⟩ (.bool x0)).setCell ⟨w.heap.size, 1, none⟩ (.bool x1)).setCell ⟨w.heap.size, 2, none⟩ (.bool x2)).setCell ⟨w.heap.size, 3, none⟩ (.bool x3)).setCell ⟨w.heap.size, 4, none⟩ (.bool x4)).heap[w.heap.size + 1]? = some (.cells #[.int .i64 0, .int .i64 0] 29 (0, 0)) by
        (rw [Below.heap_setCell _ _ _ _ (by simp), Below.heap_setCell _ _ _ _ (by simp), Below.heap_setCell _ _ _ _ (by simp), Below.heap_setCell _ _ _ _ (by simp), Below.heap_setCell _ _ _ _ (by simp)])
        exact q3) (.int .i64 0) (.int .i64 0)
      generalize World.setCell _ _ _ = F at BF g0 g1 ⊢; clear c0 c1 c2 c3 c4 k1 k2 k3 k4; have c0 := blk_cell g0 0; have c1 := blk_cell g0 1; have c2 := blk_cell g0 2; have c3 := blk_cell g0 3; have c4 := blk_cell g0 4; simp at c0 c1 c2 c3 c4; obtain ⟨k1, k2, -⟩ := blk2 g1; (exact bodyPost_ret (v := .tuple #[.bool (compC ts 5), .agg #[.bool x0, .bool x1, .bool x2, .bool x3, .bool x4], .agg #[.int .i64 0, .int .i64 0]]) (by simp [results, Try.results66, go_sem, k1, k2, c0, c1, c2, c3, c4]) rfl ⟨by rw [HVs.out.1, HVs.out.2.1, HVs.out.2.2.1, HVs.out.2.2.2.1, HVs.out.2.2.2.2], BF.drew⟩)
    · have HNx : Hid (compC ts 1 = (compC ts 0 && !allC ts 0) ∧ allC ts 0 = !ts.any fun t => !clsT 0 t) := ⟨rfl, rfl⟩
      have HAl : Hid ((#[allV ts 0 0, allV ts 0 1, allV ts 0 2, allV ts 0 3, allV ts 0 4]).setIfInBounds 0 (.bool (allC ts 0)) = #[allV ts 1 0, allV ts 1 1, allV ts 1 2, allV ts 1 3, allV ts 1 4]) := by
        show _ = _; simp [allV]
      have hcc := H0.out wr.heap.size (.slice ad (raws ts).length cap) (wr.alloc (.cells #[.func (.func 124) #[] #[]] 129 (0, 0))) (HV.out.up (below_more hbr _)) (blk_new _ _); (have hA : (ts.any fun t => !clsT 0 t) = !allC ts 0 := by rw [HNx.out.2]; simp)
      have hcc' : Calls Try.prog 99 #[.slice ad (raws ts).length cap, .func (.func 98) #[] #[.pointer (some ⟨wr.heap.size, 0, none⟩)]] (wr.alloc (.cells #[.func (.func 124) #[] #[]] 129 (0, 0))) fun e w' => e = .returned (.bool (!allC ts 0)) ∧ Below (wr.alloc (.cells #[.func (.func 124) #[] #[]] 129 (0, 0))).heap.size (wr.alloc (.cells #[.func (.func 124) #[] #[]] 129 (0, 0))) w' := by
        rw [← hA]; exact hcc
      have HX : Hid (Calls Try.prog 99 _ _ _) := hcc'; have HC1 : Hid (compC ts 1 = (compC ts 0 && !allC ts 0)) := rfl; generalize allC ts 0 = x at *; obtain ⟨y, hy⟩ : ∃ y, y = compC ts 0 := ⟨_, rfl⟩; rw [← hy] at HC1 ⊢; have z2 := lt_of_block q2; have z3 := lt_of_block q3; clear hcc hcc' hA H0 H1 H2 H3 H4 HNx hy; (have hia := fun w => cls_at0 w)
      cases y
      all_goals
        go_wp2_with (first
          | (go_at_call 99
             refine HX.out.mono ?_; rintro e w3 ⟨rfl, hb3⟩; have s0 := below_keep hb3 (alloc_keep q2 _); have s1 := below_keep hb3 (alloc_keep q3 _); have B3 := below_join (below_more hbr _) hb3; have e0 := blk_cell s0 0; have e1 := blk_fz s0 0
             simp at e0)
          | fail)
        have t0 := set_cell (j := 0) s0 (.bool x); rw [HAl.out] at t0; (have t1 : (w3.setCell ⟨w.heap.size, 0, none⟩ (.bool x)).heap[w.heap.size + 1]? = _ := (Below.heap_setCell _ _ _ _ (by simp)).trans s1); (have BF : Below w.heap.size w (w3.setCell ⟨w.heap.size, 0, none⟩ (.bool x)) := B3.setCell (by simp) _)
        go_roundg (5 - (0 + 1))
        case measure => have := HG.out; omega
        case rel => exact ⟨1, by omega, rfl, by go_num, by rw [HC1.out]; simp, BF, t0, t1⟩
    · have HNx : Hid (compC ts 2 = (compC ts 1 && !allC ts 1) ∧ allC ts 1 = !ts.any fun t => !clsT 1 t) := ⟨rfl, rfl⟩
      have HAl : Hid ((#[allV ts 1 0, allV ts 1 1, allV ts 1 2, allV ts 1 3, allV ts 1 4]).setIfInBounds 1 (.bool (allC ts 1)) = #[allV ts 2 0, allV ts 2 1, allV ts 2 2, allV ts 2 3, allV ts 2 4]) := by
        show _ = _; simp [allV]
      have hcc := H1.out wr.heap.size (.slice ad (raws ts).length cap) (wr.alloc (.cells #[.func (.func 125) #[] #[]] 129 (0, 0))) (HV.out.up (below_more hbr _)) (blk_new _ _); (have hA : (ts.any fun t => !clsT 1 t) = !allC ts 1 := by rw [HNx.out.2]; simp)
      have hcc' : Calls Try.prog 99 #[.slice ad (raws ts).length cap, .func (.func 98) #[] #[.pointer (some ⟨wr.heap.size, 0, none⟩)]] (wr.alloc (.cells #[.func (.func 125) #[] #[]] 129 (0, 0))) fun e w' => e = .returned (.bool (!allC ts 1)) ∧ Below (wr.alloc (.cells #[.func (.func 125) #[] #[]] 129 (0, 0))).heap.size (wr.alloc (.cells #[.func (.func 125) #[] #[]] 129 (0, 0))) w' := by
        rw [← hA]; exact hcc
      have HX : Hid (Calls Try.prog 99 _ _ _) := hcc'; have HC1 : Hid (compC ts 2 = (compC ts 1 && !allC ts 1)) := rfl; generalize allC ts 1 = x at *; obtain ⟨y, hy⟩ : ∃ y, y = compC ts 1 := ⟨_, rfl⟩; rw [← hy] at HC1 ⊢; have z2 := lt_of_block q2; have z3 := lt_of_block q3; clear hcc hcc' hA H0 H1 H2 H3 H4 HNx hy; (have hia := fun w => cls_at1 w)
      cases y
      all_goals
        go_wp2_with (first
          | (go_at_call 99
             refine HX.out.mono ?_; rintro e w3 ⟨rfl, hb3⟩; have s0 := below_keep hb3 (alloc_keep q2 _); have s1 := below_keep hb3 (alloc_keep q3 _); have B3 := below_join (below_more hbr _) hb3; have e0 := blk_cell s0 1; have e1 := blk_fz s0 1
             simp at e0)
          | fail)
        have t0 := set_cell (j := 1) s0 (.bool x); rw [HAl.out] at t0; (have t1 : (w3.setCell ⟨w.heap.size, 1, none⟩ (.bool x)).heap[w.heap.size + 1]? = _ := (Below.heap_setCell _ _ _ _ (by simp)).trans s1); (have BF : Below w.heap.size w (w3.setCell ⟨w.heap.size, 1, none⟩ (.bool x)) := B3.setCell (by simp) _)
        go_roundg (5 - (1 + 1))
        case measure => have := HG.out; omega
        case rel => exact ⟨2, by omega, rfl, by go_num, by rw [HC1.out]; simp, BF, t0, t1⟩
    · have HNx : Hid (compC ts 3 = (compC ts 2 && !allC ts 2) ∧ allC ts 2 = !ts.any fun t => !clsT 2 t) := ⟨rfl, rfl⟩
      have HAl : Hid ((#[allV ts 2 0, allV ts 2 1, allV ts 2 2, allV ts 2 3, allV ts 2 4]).setIfInBounds 2 (.bool (allC ts 2)) = #[allV ts 3 0, allV ts 3 1, allV ts 3 2, allV ts 3 3, allV ts 3 4]) := by
        show _ = _; simp [allV]
      have hcc := H2.out wr.heap.size (.slice ad (raws ts).length cap) (wr.alloc (.cells #[.func (.func 126) #[] #[]] 129 (0, 0))) (HV.out.up (below_more hbr _)) (blk_new _ _); (have hA : (ts.any fun t => !clsT 2 t) = !allC ts 2 := by rw [HNx.out.2]; simp)
      have hcc' : Calls Try.prog 99 #[.slice ad (raws ts).length cap, .func (.func 98) #[] #[.pointer (some ⟨wr.heap.size, 0, none⟩)]] (wr.alloc (.cells #[.func (.func 126) #[] #[]] 129 (0, 0))) fun e w' => e = .returned (.bool (!allC ts 2)) ∧ Below (wr.alloc (.cells #[.func (.func 126) #[] #[]] 129 (0, 0))).heap.size (wr.alloc (.cells #[.func (.func 126) #[] #[]] 129 (0, 0))) w' := by
        rw [← hA]; exact hcc
      have HX : Hid (Calls Try.prog 99 _ _ _) := hcc'; have HC1 : Hid (compC ts 3 = (compC ts 2 && !allC ts 2)) := rfl; generalize allC ts 2 = x at *; obtain ⟨y, hy⟩ : ∃ y, y = compC ts 2 := ⟨_, rfl⟩; rw [← hy] at HC1 ⊢; have z2 := lt_of_block q2; have z3 := lt_of_block q3; clear hcc hcc' hA H0 H1 H2 H3 H4 HNx hy; (have hia := fun w => cls_at2 w)
      cases y
      all_goals
        go_wp2_with (first
          | (go_at_call 99
             refine HX.out.mono ?_; rintro e w3 ⟨rfl, hb3⟩; have s0 := below_keep hb3 (alloc_keep q2 _); have s1 := below_keep hb3 (alloc_keep q3 _); have B3 := below_join (below_more hbr _) hb3; have e0 := blk_cell s0 2; have e1 := blk_fz s0 2
             simp at e0)
          | fail)
        have t0 := set_cell (j := 2) s0 (.bool x); rw [HAl.out] at t0; (have t1 : (w3.setCell ⟨w.heap.size, 2, none⟩ (.bool x)).heap[w.heap.size + 1]? = _ := (Below.heap_setCell _ _ _ _ (by simp)).trans s1); (have BF : Below w.heap.size w (w3.setCell ⟨w.heap.size, 2, none⟩ (.bool x)) := B3.setCell (by simp) _)
        go_roundg (5 - (2 + 1))
        case measure => have := HG.out; omega
        case rel => exact ⟨3, by omega, rfl, by go_num, by rw [HC1.out]; simp, BF, t0, t1⟩
    · have HNx : Hid (compC ts 4 = (compC ts 3 && !allC ts 3) ∧ allC ts 3 = !ts.any fun t => !clsT 3 t) := ⟨rfl, rfl⟩
      have HAl : Hid ((#[allV ts 3 0, allV ts 3 1, allV ts 3 2, allV ts 3 3, allV ts 3 4]).setIfInBounds 3 (.bool (allC ts 3)) = #[allV ts 4 0, allV ts 4 1, allV ts 4 2, allV ts 4 3, allV ts 4 4]) := by
        show _ = _; simp [allV]
      have hcc := H3.out wr.heap.size (.slice ad (raws ts).length cap) (wr.alloc (.cells #[.func (.func 127) #[] #[]] 129 (0, 0))) (HV.out.up (below_more hbr _)) (blk_new _ _); (have hA : (ts.any fun t => !clsT 3 t) = !allC ts 3 := by rw [HNx.out.2]; simp)
      have hcc' : Calls Try.prog 99 #[.slice ad (raws ts).length cap, .func (.func 98) #[] #[.pointer (some ⟨wr.heap.size, 0, none⟩)]] (wr.alloc (.cells #[.func (.func 127) #[] #[]] 129 (0, 0))) fun e w' => e = .returned (.bool (!allC ts 3)) ∧ Below (wr.alloc (.cells #[.func (.func 127) #[] #[]] 129 (0, 0))).heap.size (wr.alloc (.cells #[.func (.func 127) #[] #[]] 129 (0, 0))) w' := by
        rw [← hA]; exact hcc
      have HX : Hid (Calls Try.prog 99 _ _ _) := hcc'; have HC1 : Hid (compC ts 4 = (compC ts 3 && !allC ts 3)) := rfl; generalize allC ts 3 = x at *; obtain ⟨y, hy⟩ : ∃ y, y = compC ts 3 := ⟨_, rfl⟩; rw [← hy] at HC1 ⊢; have z2 := lt_of_block q2; have z3 := lt_of_block q3; clear hcc hcc' hA H0 H1 H2 H3 H4 HNx hy; (have hia := fun w => cls_at3 w)
      cases y
      all_goals
        go_wp2_with (first
          | (go_at_call 99
             refine HX.out.mono ?_; rintro e w3 ⟨rfl, hb3⟩; have s0 := below_keep hb3 (alloc_keep q2 _); have s1 := below_keep hb3 (alloc_keep q3 _); have B3 := below_join (below_more hbr _) hb3; have e0 := blk_cell s0 3; have e1 := blk_fz s0 3
             simp at e0)
          | fail)
        have t0 := set_cell (j := 3) s0 (.bool x); rw [HAl.out] at t0; (have t1 : (w3.setCell ⟨w.heap.size, 3, none⟩ (.bool x)).heap[w.heap.size + 1]? = _ := (Below.heap_setCell _ _ _ _ (by simp)).trans s1); (have BF : Below w.heap.size w (w3.setCell ⟨w.heap.size, 3, none⟩ (.bool x)) := B3.setCell (by simp) _)
        go_roundg (5 - (3 + 1))
        case measure => have := HG.out; omega
        case rel => exact ⟨4, by omega, rfl, by go_num, by rw [HC1.out]; simp, BF, t0, t1⟩
    · have HNx : Hid (compC ts 5 = (compC ts 4 && !allC ts 4) ∧ allC ts 4 = !ts.any fun t => !clsT 4 t) := ⟨rfl, rfl⟩
      have HAl : Hid ((#[allV ts 4 0, allV ts 4 1, allV ts 4 2, allV ts 4 3, allV ts 4 4]).setIfInBounds 4 (.bool (allC ts 4)) = #[allV ts 5 0, allV ts 5 1, allV ts 5 2, allV ts 5 3, allV ts 5 4]) := by
        show _ = _; simp [allV]
      have hcc := H4.out wr.heap.size (.slice ad (raws ts).length cap) (wr.alloc (.cells #[.func (.func 128) #[] #[]] 129 (0, 0))) (HV.out.up (below_more hbr _)) (blk_new _ _); (have hA : (ts.any fun t => !clsT 4 t) = !allC ts 4 := by rw [HNx.out.2]; simp)
      have hcc' : Calls Try.prog 99 #[.slice ad (raws ts).length cap, .func (.func 98) #[] #[.pointer (some ⟨wr.heap.size, 0, none⟩)]] (wr.alloc (.cells #[.func (.func 128) #[] #[]] 129 (0, 0))) fun e w' => e = .returned (.bool (!allC ts 4)) ∧ Below (wr.alloc (.cells #[.func (.func 128) #[] #[]] 129 (0, 0))).heap.size (wr.alloc (.cells #[.func (.func 128) #[] #[]] 129 (0, 0))) w' := by
        rw [← hA]; exact hcc
      have HX : Hid (Calls Try.prog 99 _ _ _) := hcc'; have HC1 : Hid (compC ts 5 = (compC ts 4 && !allC ts 4)) := rfl; generalize allC ts 4 = x at *; obtain ⟨y, hy⟩ : ∃ y, y = compC ts 4 := ⟨_, rfl⟩; rw [← hy] at HC1 ⊢; have z2 := lt_of_block q2; have z3 := lt_of_block q3; clear hcc hcc' hA H0 H1 H2 H3 H4 HNx hy; (have hia := fun w => cls_at4 w)
      cases y
      all_goals
        go_wp2_with (first
          | (go_at_call 99
             refine HX.out.mono ?_; rintro e w3 ⟨rfl, hb3⟩; have s0 := below_keep hb3 (alloc_keep q2 _); have s1 := below_keep hb3 (alloc_keep q3 _); have B3 := below_join (below_more hbr _) hb3; have e0 := blk_cell s0 4; have e1 := blk_fz s0 4
             simp at e0)
          | fail)
        have t0 := set_cell (j := 4) s0 (.bool x); rw [HAl.out] at t0; (have t1 : (w3.setCell ⟨w.heap.size, 4, none⟩ (.bool x)).heap[w.heap.size + 1]? = _ := (Below.heap_setCell _ _ _ _ (by simp)).trans s1); (have BF : Below w.heap.size w (w3.setCell ⟨w.heap.size, 4, none⟩ (.bool x)) := B3.setCell (by simp) _)
        go_roundg (5 - (4 + 1))
        case measure => have := HG.out; omega
        case rel => exact ⟨5, by omega, rfl, by go_num, by rw [HC1.out]; simp, BF, t0, t1⟩
end Go.Proofs.Ytlmjnglcdgkomaa
