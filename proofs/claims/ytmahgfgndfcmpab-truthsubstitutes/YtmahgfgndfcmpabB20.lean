/- Texts of one proof, one behind the other: TC5, TC6. -/
import Derived.Test.YtmahgfgndfcmpabB15
import Derived.Laws.EntriesVeiled
/- Walks: Complete. -/
namespace Go.Proofs.Ytmahgfgndfcmpab
open Go.RowKit

def raws (ts : List Tb) : List (Int × List Bool) := ts.map fun t => ((t.n : Int), t.bits)

theorem TQ.at {w : World} {v : Value} {ts : List Tb} (h : TQ w v (raws ts)) : ∃ ad cap, v = .slice ad ts.length cap ∧ ts.length ≤ cap ∧ cap ≤ maxLen ∧ (ts ≠ [] → ∃ g off, ad = some ⟨g, off, none⟩ ∧ ∀ (j : Nat) (t : Tb), ts[j]? = some t → ∃ adB cpB, w.cell? ⟨g, off + j * 2, none⟩ = some (.int .i64 (t.n : Nat)) ∧ w.cell? ⟨g, off + j * 2 + 1, none⟩ = some (.slice adB t.bits.length cpB) ∧ TR w t (.agg #[.int .i64 (t.n : Nat), .slice adB t.bits.length cpB])) := by
  obtain ⟨ad, cap, h1, h2, h3, h4⟩ := h; (have hl : (raws ts).length = ts.length := by simp [raws]); rw [hl] at h1 h2; (refine ⟨ad, cap, h1, h2, h3, fun hne => ?_⟩); (obtain ⟨g, off, h5, h6⟩ := h4 (by simpa [raws] using hne)); (refine ⟨g, off, h5, fun j t ht => ?_⟩); (obtain ⟨adB, cpB, h7, h8, h9⟩ := h6 j ((t.n : Int), t.bits) (by simp [raws, ht])); exact ⟨adB, cpB, h7, h8, adB, cpB, rfl, h9⟩

/-- What is asked of tables. -/
structure PredT (fn : Nat) (cap : Array Value) (p : Tb → Bool) (Ok : World → Prop) : Prop where
  up : ∀ {w w' : World}, Ok w → Below w.heap.size w w' → Ok w'
  ent : ∀ (v : Value) (w : World), (callFunc fn (#[v] ++ cap)).run Try.prog w = .ok (.enter fn (#[v] ++ cap)) w
  call : ∀ (t : Tb) (v : Value) (w : World), Ok w → t.Ok → TR w t v → Calls Try.prog fn (#[v] ++ cap) w fun e w' => e = .returned (.bool (p t)) ∧ Below w.heap.size w w'

set_option maxHeartbeats 2000000 in
theorem idxFunc_tab {fn : Nat} {cp : Array Value} {p : Tb → Bool} {Ok : World → Prop} (A : PredT fn cp p Ok) (ts : List Tb) (hok : ∀ t ∈ ts, t.Ok) (v : Value) (w : World) (hv : TQ w v (raws ts)) (ho : Ok w) :
    Calls Try.prog 62 #[v, .func (.func fn) #[] cp] w fun e w' => ∃ j : Int, e = .returned (.int .i64 j) ∧ decide (0 ≤ j) = ts.any p ∧ Below w.heap.size w w' := by
  obtain ⟨ad, cap, rfl, h1, h2, h3⟩ := hv.at; (have hlI : (ts.length : Int) ≤ 9223372036854775807 := by unfold maxLen at h2; omega); have H3 : Hid (ts ≠ [] → ∃ g off, ad = some ⟨g, off, none⟩ ∧ ∀ (j : Nat) (t : Tb), ts[j]? = some t → ∃ adB cpB, w.cell? ⟨g, off + j * 2, none⟩ = some (.int .i64 (t.n : Nat)) ∧ w.cell? ⟨g, off + j * 2 + 1, none⟩ = some (.slice adB t.bits.length cpB) ∧ TR w t (.agg #[.int .i64 (t.n : Nat), .slice adB t.bits.length cpB])) := h3; (have HA : Hid (∀ (t : Tb) (v : Value) (w : World), Ok w → t.Ok → TR w t v → Calls Try.prog fn (#[v] ++ cp) w fun e w' => e = .returned (.bool (p t)) ∧ Below w.heap.size w w') := A.call); have HU : Hid (∀ {w w' : World}, Ok w → Below w.heap.size w w' → Ok w') := A.up; have HMx : Hid (∀ t ∈ ts, t.Ok) := hok; have HO : Hid (Ok w) := ho; have hcf := A.ent; clear h3 hok ho A hv
  go_enter Try.func62, Try.ntmps62
  go_wp2_with fail
  go_loopg [8] ts.length (fun g c wr => ∃ i, i ≤ ts.length ∧ g = ts.length - i ∧ c = .int .i64 (i : Nat) ∧ Below w.heap.size w wr ∧ Hid ((ts.take i).any p = false))
  case atStart => exact ⟨0, by omega, by omega, rfl, Below.refl _ _, by show _ = _; rfl⟩
  case round =>
    obtain ⟨i, hi, hg, rfl, hbr, HN⟩ := hrel; have HG : Hid (gk = ts.length - i) := hg; clear hg; by_cases hlt : i < ts.length
    · obtain ⟨t, ht⟩ : ∃ x, ts[i]? = some x := ⟨_, List.getElem?_eq_getElem hlt⟩
      (obtain ⟨g, off, rfl, hc⟩ := H3.out (fun e => by rw [e] at hlt; simp at hlt)); obtain ⟨adB, cpB, c0, c1, htr⟩ := hc i t ht; have g0 := (hbr.cell (p := ⟨g, off + i * 2, none⟩) (lt_of_cell c0)).trans c0; have g1 := (hbr.cell (p := ⟨g, off + i * 2 + 1, none⟩) (lt_of_cell c1)).trans c1; (have hltI : (i : Int) < (ts.length : Int) := by omega); (have hlc : (i : Int) < (cap : Int) := by omega); have hcc := HA.out t _ wr (HU.out HO.out hbr) (HMx.out t (List.mem_of_getElem? ht)) (htr.up hbr); (have HXi : Hid (p t = true → ts.any p = true) := fun hp => List.any_eq_true.2 ⟨t, List.mem_of_getElem? ht, hp⟩)
      have HXn : Hid (p t = false → (ts.take (i + 1)).any p = false) := fun hp => by
        rw [List.take_add_one, ht, List.any_append, HN.out]; simp [hp]
      generalize p t = bb at *; have HCC : Hid (Calls Try.prog fn _ wr _) := hcc; clear hc ht H3 hcc c0 c1 htr; go_wp2_with fail; refine HCC.out.mono ?_; rintro e w1 ⟨rfl, hb1⟩; have B1 := below_join hbr hb1
      cases bb
      · have HX := HXn.out (by first | rfl | trivial)
        have HX' : Hid ((ts.take (i + 1)).any p = false) := HX; clear HX HXn HXi; go_wp2_with fail
        go_roundg (ts.length - (i + 1))
        case measure => have := HG.out; omega
        case rel => exact ⟨i + 1, by omega, rfl, by go_num, B1, HX'⟩
      · have HX := HXi.out (by first | rfl | trivial)
        have HX' : Hid (ts.any p = true) := HX; clear HX HXn HXi; go_wp2_with fail; go_ret; (exact ⟨(i : Int), rfl, by rw [HX'.out]; exact decide_eq_true (by omega), B1⟩)
    · have HT : Hid (ts.any p = false) := by
        have := HN.out; (rw [List.take_of_length_le (by omega)] at this); exact this
      (have hge : ¬ (i : Int) < (ts.length : Int) := by omega); clear H3 HN; go_wp2_with fail; go_ret; (exact ⟨-1, rfl, by rw [HT.out]; rfl, hbr⟩)

set_option maxHeartbeats 1000000 in
theorem contains_tab {fn : Nat} {cp : Array Value} {p : Tb → Bool} {Ok : World → Prop} (A : PredT fn cp p Ok) (ts : List Tb) (hok : ∀ t ∈ ts, t.Ok) (v : Value) (w : World) (hv : TQ w v (raws ts)) (ho : Ok w) :
    Calls Try.prog 36 #[v, .func (.func fn) #[] cp] w fun e w' => e = .returned (.bool (ts.any p)) ∧ Below w.heap.size w w' := by
  have hx := idxFunc_tab A ts hok v w hv ho; have HX : Hid (Calls Try.prog 62 _ w _) := hx; obtain ⟨ad, cap, rfl, -⟩ := hv; clear hx hok ho A
  go_enter Try.func36, Try.ntmps36
  go_wp2_with (first
    | (go_at_call 62
       refine HX.out.mono ?_; rintro e w1 ⟨j, rfl, hj, hb1⟩; have HJ : Hid (decide (0 ≤ j) = ts.any p) := hj
       clear hj)
    | fail)
  go_ret; (exact ⟨by rw [← HJ.out]; rfl, hb1⟩)

/-! The closure of Complete. -/
theorem complete1_in (cap : Array Value) (w : World) : (callFunc 35 cap).run Try.prog w = .ok (.enter 35 cap) w := by
  simp [go_sem]

def OkF (cb fn : Nat) (w : World) : Prop := w.heap[cb]? = some (.cells #[.func (.func fn) #[] #[]] 68 (0, 0))

set_option maxHeartbeats 1000000 in
theorem complete1_any {fn : Nat} {p : Tb → Bool} (A : PredT fn #[] p (fun _ => True)) (cb : Nat) (t : Tb) (v : Value) (w : World) (hw : OkF cb fn w) (hok : t.Ok) (h : TR w t v) :
    Calls Try.prog 35 (#[v] ++ #[.pointer (some ⟨cb, 0, none⟩)]) w fun e w' => e = .returned (.bool (!p t)) ∧ Below w.heap.size w w' := by
  (have hcf : ∀ (v : Value) (w : World), (callFunc fn #[v]).run Try.prog w = .ok (.enter fn #[v]) w := fun v w => A.ent v w); obtain ⟨ad, cap, rfl, hbl⟩ := id h; have B0 := below_more (Below.refl _ w) (.cells #[.int .i64 (t.n : Nat), .slice ad t.bits.length cap] 33 (0, 0)); have hcc := A.call t _ _ trivial hok (h.up B0); generalize p t = bb at *; have HCC : Hid (Calls Try.prog fn #[.agg #[.int .i64 (t.n : Nat), .slice ad t.bits.length cap]] _ _) := hcc; have k1 := alloc_keep (show w.heap[cb]? = _ from hw) (.cells #[.int .i64 (t.n : Nat), .slice ad t.bits.length cap] 33 (0, 0)); obtain ⟨c1, -⟩ := blk1 k1; clear hcc h hbl hw k1; show Calls Try.prog 35 #[.agg #[.int .i64 (t.n : Nat), .slice ad t.bits.length cap], .pointer (some ⟨cb, 0, none⟩)] w _
  go_enter Try.func35, Try.ntmps35
  go_wp2_with fail; refine HCC.out.mono ?_; rintro e w1 ⟨rfl, hb1⟩; have B1 := below_join B0 hb1; go_wp2_with fail; go_ret; exact ⟨rfl, B1⟩

theorem predC {fn : Nat} {p : Tb → Bool} (A : PredT fn #[] p (fun _ => True)) (cb : Nat) : PredT 35 #[.pointer (some ⟨cb, 0, none⟩)] (fun t => !p t) (OkF cb fn) where
  up := fun h hb => below_keep hb h
  ent := fun _ w => complete1_in _ w
  call := fun t v w ho hok h => complete1_any A cb t v w ho hok h

theorem cl0_in (cap : Array Value) (w : World) : (callFunc 57 cap).run Try.prog w = .ok (.enter 57 cap) w := by simp [go_sem]
theorem cl1_in (cap : Array Value) (w : World) : (callFunc 58 cap).run Try.prog w = .ok (.enter 58 cap) w := by simp [go_sem]
theorem cl2_in (cap : Array Value) (w : World) : (callFunc 59 cap).run Try.prog w = .ok (.enter 59 cap) w := by simp [go_sem]
theorem cl3_in (cap : Array Value) (w : World) : (callFunc 60 cap).run Try.prog w = .ok (.enter 60 cap) w := by simp [go_sem]
theorem cl4_in (cap : Array Value) (w : World) : (callFunc 61 cap).run Try.prog w = .ok (.enter 61 cap) w := by simp [go_sem]

theorem pred0 : PredT 57 #[] (fun t => cls0 t.bits) (fun _ => True) := ⟨fun _ _ => trivial, fun _ w => cl0_in _ w, fun t v w _ hok h => class0_any t hok v w h⟩
theorem pred1 : PredT 58 #[] (fun t => cls1 t.bits) (fun _ => True) := ⟨fun _ _ => trivial, fun _ w => cl1_in _ w, fun t v w _ hok h => class1_any t hok v w h⟩
theorem pred2 : PredT 59 #[] (fun t => cls2 t.bits) (fun _ => True) := ⟨fun _ _ => trivial, fun _ w => cl2_in _ w, fun t v w _ hok h => selfDual_any t hok v w h⟩
theorem pred3 : PredT 60 #[] (fun t => cls3 t.n t.bits) (fun _ => True) := ⟨fun _ _ => trivial, fun _ w => cl3_in _ w, fun t v w _ hok h => rising_any t hok v w h⟩
theorem pred4 : PredT 61 #[] (fun t => cls4 t.n t.bits) (fun _ => True) := ⟨fun _ _ => trivial, fun _ w => cl4_in _ w, fun t v w _ hok h => sum_any t hok v w h⟩

set_option maxHeartbeats 1000000 in
theorem classes_any (w : World) : Calls Try.prog 34 #[] w fun e w' => e = .returned (.agg #[.func (.func 57) #[] #[], .func (.func 58) #[] #[], .func (.func 59) #[] #[], .func (.func 60) #[] #[], .func (.func 61) #[] #[]]) ∧ Below w.heap.size w w' := by
  go_enter Try.func34, Try.ntmps34
  go_wp2_with fail; (exact bodyPost_ret (v := .agg #[.func (.func 57) #[] #[], .func (.func 58) #[] #[], .func (.func 59) #[] #[], .func (.func 60) #[] #[], .func (.func 61) #[] #[]]) (by simp [results, Try.results34, go_sem]) rfl ⟨rfl, below_more (Below.refl _ w) _⟩)
end Go.Proofs.Ytmahgfgndfcmpab
/- Walks: Complete, its answer. -/
namespace Go.Proofs.Ytmahgfgndfcmpab
open Go.RowKit

/-- Post's classes, by number. -/
def clsT (i : Nat) (t : Tb) : Bool := match i with
  | 0 => cls0 t.bits
  | 1 => cls1 t.bits
  | 2 => cls2 t.bits
  | 3 => cls3 t.n t.bits
  | _ => cls4 t.n t.bits
def allC (ts : List Tb) (i : Nat) : Bool := !ts.any fun t => !clsT i t
def compC (ts : List Tb) : Nat → Bool
  | 0 => true
  | i + 1 => compC ts i && !allC ts i
def allV (ts : List Tb) (i j : Nat) : Value := .bool (decide (j < i) && allC ts j)

theorem TQ.len {w : World} {v : Value} {ts : List (Int × List Bool)} (h : TQ w v ts) : ∃ ad cap, v = .slice ad ts.length cap := by
  obtain ⟨ad, cap, h1, -⟩ := h; exact ⟨ad, cap, h1⟩

theorem tbad_ok {t : Tb} (h : t.Ok) : tbad ((t.n : Int), t.bits) = 0 := by
  unfold tbad; (rw [if_neg (by have := h.1; simp only; omega)]); have := h.2; simp [this]
theorem tfirst_ok : ∀ (ts : List Tb) (i : Nat), (∀ t ∈ ts, t.Ok) → tfirst (raws ts) i = (0, 0)
  | [], i, _ => rfl
  | t :: ts, i, h => by
    show tfirst (((t.n : Int), t.bits) :: raws ts) i = _; rw [tfirst, tbad_ok (h t (List.mem_cons_self ..)), if_pos rfl]; (exact tfirst_ok ts (i + 1) fun x hx => h x (List.mem_cons_of_mem _ hx))

theorem cls_at0 (w : World) : (Instr.index 69 (.agg #[.func (.func 57) #[] #[], .func (.func 58) #[] #[], .func (.func 59) #[] #[], .func (.func 60) #[] #[], .func (.func 61) #[] #[]]) (.int .i64 0)).run Try.prog w = .ok (.func (.func 57) #[] #[]) w := by kernel_rfl
theorem cls_at1 (w : World) : (Instr.index 69 (.agg #[.func (.func 57) #[] #[], .func (.func 58) #[] #[], .func (.func 59) #[] #[], .func (.func 60) #[] #[], .func (.func 61) #[] #[]]) (.int .i64 1)).run Try.prog w = .ok (.func (.func 58) #[] #[]) w := by kernel_rfl
theorem cls_at2 (w : World) : (Instr.index 69 (.agg #[.func (.func 57) #[] #[], .func (.func 58) #[] #[], .func (.func 59) #[] #[], .func (.func 60) #[] #[], .func (.func 61) #[] #[]]) (.int .i64 2)).run Try.prog w = .ok (.func (.func 59) #[] #[]) w := by kernel_rfl
theorem cls_at3 (w : World) : (Instr.index 69 (.agg #[.func (.func 57) #[] #[], .func (.func 58) #[] #[], .func (.func 59) #[] #[], .func (.func 60) #[] #[], .func (.func 61) #[] #[]]) (.int .i64 3)).run Try.prog w = .ok (.func (.func 60) #[] #[]) w := by kernel_rfl
theorem cls_at4 (w : World) : (Instr.index 69 (.agg #[.func (.func 57) #[] #[], .func (.func 58) #[] #[], .func (.func 59) #[] #[], .func (.func 60) #[] #[], .func (.func 61) #[] #[]]) (.int .i64 4)).run Try.prog w = .ok (.func (.func 61) #[] #[]) w := by kernel_rfl

set_option maxHeartbeats 8000000 in
theorem complete_yes (ts : List Tb) (hl : ts.length ≤ 20) (hok : ∀ t ∈ ts, t.Ok) (v : Value) (w : World) (hv : TQ w v (raws ts)) :
    Calls Try.prog 8 #[v] w fun e w' => e = .returned (.tuple #[.bool (compC ts 5), .agg #[allV ts 5 0, allV ts 5 1, allV ts 5 2, allV ts 5 3, allV ts 5 4], .agg #[.int .i64 0, .int .i64 0]]) ∧ Below w.heap.size w w' := by
  (have htf := fun v (w : World) h => tablesFault_any (raws ts) v w h)
  have htc : tcode (raws ts) = (0, 0) := by
    unfold tcode; (rw [if_neg (by simp [raws]; omega)]); exact tfirst_ok ts 0 hok
  rw [htc] at htf; have HTf : Hid (∀ v w, TQ w v (raws ts) → Calls Try.prog 33 #[v] w _) := htf; (have H0 : Hid (∀ cb v w, TQ w v (raws ts) → OkF cb 57 w → Calls Try.prog 36 _ w _) := fun cb v w h o => contains_tab (predC pred0 cb) ts hok v w h o); (have H1 : Hid (∀ cb v w, TQ w v (raws ts) → OkF cb 58 w → Calls Try.prog 36 _ w _) := fun cb v w h o => contains_tab (predC pred1 cb) ts hok v w h o); (have H2 : Hid (∀ cb v w, TQ w v (raws ts) → OkF cb 59 w → Calls Try.prog 36 _ w _) := fun cb v w h o => contains_tab (predC pred2 cb) ts hok v w h o); (have H3 : Hid (∀ cb v w, TQ w v (raws ts) → OkF cb 60 w → Calls Try.prog 36 _ w _) := fun cb v w h o => contains_tab (predC pred3 cb) ts hok v w h o); (have H4 : Hid (∀ cb v w, TQ w v (raws ts) → OkF cb 61 w → Calls Try.prog 36 _ w _) := fun cb v w h o => contains_tab (predC pred4 cb) ts hok v w h o); (have HCl : Hid (∀ w, Calls Try.prog 34 #[] w _) := fun w => classes_any w); have HV : Hid (TQ w v (raws ts)) := hv; obtain ⟨ad, cap, rfl⟩ := hv.len; (have hmf : ∀ (fn : Fn) (first cap : Array Value) (w : World), (Instr.makeFunc fn first cap).run Try.prog w = .ok (.func fn first cap) w := fun _ _ _ _ => rfl); clear htf htc hv hl
  go_enter Try.func8, Try.ntmps8
  go_wp2_with (first
    | (go_at_call 33
       refine (HTf.out _ _ (HV.out.up (below_more (below_more (Below.refl _ w) _) _))).mono ?_; rintro e w1 ⟨rfl, hb1⟩; have z1 := hb1.size; simp at z1; have q0 := below_keep hb1 (alloc_keep (blk_new w _) _); have q1 := below_keep hb1 (blk_new (w.alloc _) _); (rw [show (w.alloc _).heap.size = w.heap.size + 1 by simp] at q1)
       have B1 := below_join (below_more (below_more (Below.refl _ w) _) _) hb1)
    | (go_at_call 34
       refine (HCl.out _).mono ?_; rintro e w2 ⟨rfl, hb2⟩; have r0 := below_keep hb2 (alloc_keep q0 _); have r1 := below_keep hb2 (alloc_keep q1 _)
       have B2 := below_join (below_more B1 _) hb2)
    | fail)
  go_loopg [17, 2] 5 (fun gk c b wr => ∃ i, i ≤ 5 ∧ gk = 5 - i ∧ c = .int .i64 (i : Nat) ∧ b = .bool (compC ts i) ∧ Below w.heap.size w wr ∧ wr.heap[w.heap.size]? = some (.cells #[allV ts i 0, allV ts i 1, allV ts i 2, allV ts i 3, allV ts i 4] 23 (0, 0)) ∧ wr.heap[w.heap.size + 1]? = some (.cells #[.int .i64 0, .int .i64 0] 25 (0, 0)))
  case atStart => exact ⟨0, by omega, by omega, rfl, rfl, B2, r0, r1⟩
  case round =>
    obtain ⟨i, hi, hg, rfl, rfl, hbr, q2, q3⟩ := hrel; have HG : Hid (gk = 5 - i) := hg; clear hg; (have hi5 : i = 5 ∨ i = 0 ∨ i = 1 ∨ i = 2 ∨ i = 3 ∨ i = 4 := by omega)
    rcases hi5 with rfl | rfl | rfl | rfl | rfl | rfl
    · have HVs : Hid (allV ts 5 0 = .bool (allC ts 0) ∧ allV ts 5 1 = .bool (allC ts 1) ∧ allV ts 5 2 = .bool (allC ts 2) ∧ allV ts 5 3 = .bool (allC ts 3) ∧ allV ts 5 4 = .bool (allC ts 4)) := by
        (refine ⟨?_, ?_, ?_, ?_, ?_⟩ <;> simp [allV])
      rw [HVs.out.1, HVs.out.2.1, HVs.out.2.2.1, HVs.out.2.2.2.1, HVs.out.2.2.2.2] at q2; generalize allC ts 0 = x0 at *; generalize allC ts 1 = x1 at *; generalize allC ts 2 = x2 at *; generalize allC ts 3 = x3 at *; generalize allC ts 4 = x4 at *; have z2 := lt_of_block q2; have z3 := lt_of_block q3; have c0 := blk_cell q2 0; have c1 := blk_cell q2 1; have c2 := blk_cell q2 2; have c3 := blk_cell q2 3; have c4 := blk_cell q2 4; have f0 := blk_fz q2 0; have f1 := blk_fz q2 1; have f2 := blk_fz q2 2; have f3 := blk_fz q2 3; have f4 := blk_fz q2 4; simp at c0 c1 c2 c3 c4; obtain ⟨k1, k2, k3, k4⟩ := blk2 q3; clear H0 H1 H2 H3 H4; go_wp2_with fail
      go_region
      all_goals go_wp2
      have BF : Below w.heap.size w (((((((wr.setCell ⟨w.heap.size, 0, none⟩ (.bool x0)).setCell ⟨w.heap.size, 1, none⟩ (.bool x1)).setCell ⟨w.heap.size, 2, none⟩ (.bool x2)).setCell ⟨w.heap.size, 3, none⟩ (.bool x3)).setCell ⟨w.heap.size, 4, none⟩ (.bool x4)).setCell ⟨w.heap.size + 1, 0, none⟩ (.int .i64 0)).setCell ⟨w.heap.size + 1, 1, none⟩ (.int .i64 0)) :=
        ((((((hbr.setCell (by simp) _).setCell (by simp) _).setCell (by simp) _).setCell (by simp) _).setCell (by simp) _).setCell (by simp) _).setCell (by simp) _
      have g0 : (((((((wr.setCell ⟨w.heap.size, 0, none⟩ (.bool x0)).setCell ⟨w.heap.size, 1, none⟩ (.bool x1)).setCell ⟨w.heap.size, 2, none⟩ (.bool x2)).setCell ⟨w.heap.size, 3, none⟩ (.bool x3)).setCell ⟨w.heap.size, 4, none⟩ (.bool x4)).setCell ⟨w.heap.size + 1, 0, none⟩ (.int .i64 0)).setCell ⟨w.heap.size + 1, 1, none⟩ (.int .i64 0)).heap[w.heap.size]? = some (.cells #[.bool x0, .bool x1, .bool x2, .bool x3, .bool x4] 23 (0, 0)) := by
        (rw [Below.heap_setCell _ _ _ _ (by simp), Below.heap_setCell _ _ _ _ (by simp)]); have := set_cell (j := 4) (set_cell (j := 3) (set_cell (j := 2) (set_cell (j := 1) (set_cell (j := 0) q2 (.bool x0)) (.bool x1)) (.bool x2)) (.bool x3)) (.bool x4); rw [this]
        simp
      have g1 := set2 (show (((((wr.setCell ⟨w.heap.size, 0, none⟩ (.bool x0)).setCell ⟨w.heap.size, 1, none⟩ (.bool x1)).setCell ⟨w.heap.size, 2, none⟩ (.bool x2)).setCell ⟨w.heap.size, 3, none⟩ (.bool x3)).setCell ⟨w.heap.size, 4, none⟩ (.bool x4)).heap[w.heap.size + 1]? = some (.cells #[.int .i64 0, .int .i64 0] 25 (0, 0)) by
        (rw [Below.heap_setCell _ _ _ _ (by simp), Below.heap_setCell _ _ _ _ (by simp), Below.heap_setCell _ _ _ _ (by simp), Below.heap_setCell _ _ _ _ (by simp), Below.heap_setCell _ _ _ _ (by simp)])
        exact q3) (.int .i64 0) (.int .i64 0)
      generalize World.setCell _ _ _ = F at BF g0 g1 ⊢; clear c0 c1 c2 c3 c4 k1 k2 k3 k4; have c0 := blk_cell g0 0; have c1 := blk_cell g0 1; have c2 := blk_cell g0 2; have c3 := blk_cell g0 3; have c4 := blk_cell g0 4; simp at c0 c1 c2 c3 c4; obtain ⟨k1, k2, -⟩ := blk2 g1; (exact bodyPost_ret (v := .tuple #[.bool (compC ts 5), .agg #[.bool x0, .bool x1, .bool x2, .bool x3, .bool x4], .agg #[.int .i64 0, .int .i64 0]]) (by simp [results, Try.results8, go_sem, k1, k2, c0, c1, c2, c3, c4]) rfl ⟨by rw [HVs.out.1, HVs.out.2.1, HVs.out.2.2.1, HVs.out.2.2.2.1, HVs.out.2.2.2.2], BF.drew⟩)
    · have HNx : Hid (compC ts 1 = (compC ts 0 && !allC ts 0) ∧ allC ts 0 = !ts.any fun t => !clsT 0 t) := ⟨rfl, rfl⟩
      have HAl : Hid ((#[allV ts 0 0, allV ts 0 1, allV ts 0 2, allV ts 0 3, allV ts 0 4]).setIfInBounds 0 (.bool (allC ts 0)) = #[allV ts 1 0, allV ts 1 1, allV ts 1 2, allV ts 1 3, allV ts 1 4]) := by
        show _ = _; simp [allV]
      have hcc := H0.out wr.heap.size (.slice ad (raws ts).length cap) (wr.alloc (.cells #[.func (.func 57) #[] #[]] 68 (0, 0))) (HV.out.up (below_more hbr _)) (blk_new _ _); (have hA : (ts.any fun t => !clsT 0 t) = !allC ts 0 := by rw [HNx.out.2]; simp)
      have hcc' : Calls Try.prog 36 #[.slice ad (raws ts).length cap, .func (.func 35) #[] #[.pointer (some ⟨wr.heap.size, 0, none⟩)]] (wr.alloc (.cells #[.func (.func 57) #[] #[]] 68 (0, 0))) fun e w' => e = .returned (.bool (!allC ts 0)) ∧ Below (wr.alloc (.cells #[.func (.func 57) #[] #[]] 68 (0, 0))).heap.size (wr.alloc (.cells #[.func (.func 57) #[] #[]] 68 (0, 0))) w' := by
        rw [← hA]; exact hcc
      have HX : Hid (Calls Try.prog 36 _ _ _) := hcc'; have HC1 : Hid (compC ts 1 = (compC ts 0 && !allC ts 0)) := rfl; generalize allC ts 0 = x at *; obtain ⟨y, hy⟩ : ∃ y, y = compC ts 0 := ⟨_, rfl⟩; rw [← hy] at HC1 ⊢; have z2 := lt_of_block q2; have z3 := lt_of_block q3; clear hcc hcc' hA H0 H1 H2 H3 H4 HNx hy; (have hia := fun w => cls_at0 w)
      cases y
      all_goals
        go_wp2_with (first
          | (go_at_call 36
             refine HX.out.mono ?_; rintro e w3 ⟨rfl, hb3⟩; have s0 := below_keep hb3 (alloc_keep q2 _); have s1 := below_keep hb3 (alloc_keep q3 _); have B3 := below_join (below_more hbr _) hb3; have e0 := blk_cell s0 0; have e1 := blk_fz s0 0
             simp at e0)
          | fail)
        have t0 := set_cell (j := 0) s0 (.bool x); rw [HAl.out] at t0; (have t1 : (w3.setCell ⟨w.heap.size, 0, none⟩ (.bool x)).heap[w.heap.size + 1]? = _ := (Below.heap_setCell _ _ _ _ (by simp)).trans s1); (have BF : Below w.heap.size w (w3.setCell ⟨w.heap.size, 0, none⟩ (.bool x)) := B3.setCell (by simp) _)
        go_roundg (5 - (0 + 1))
        case measure => have := HG.out; omega
        case rel => exact ⟨1, by omega, rfl, by go_num, by rw [HC1.out]; simp, BF, t0, t1⟩
    · have HNx : Hid (compC ts 2 = (compC ts 1 && !allC ts 1) ∧ allC ts 1 = !ts.any fun t => !clsT 1 t) := ⟨rfl, rfl⟩
      have HAl : Hid ((#[allV ts 1 0, allV ts 1 1, allV ts 1 2, allV ts 1 3, allV ts 1 4]).setIfInBounds 1 (.bool (allC ts 1)) = #[allV ts 2 0, allV ts 2 1, allV ts 2 2, allV ts 2 3, allV ts 2 4]) := by
        show _ = _; simp [allV]
      have hcc := H1.out wr.heap.size (.slice ad (raws ts).length cap) (wr.alloc (.cells #[.func (.func 58) #[] #[]] 68 (0, 0))) (HV.out.up (below_more hbr _)) (blk_new _ _); (have hA : (ts.any fun t => !clsT 1 t) = !allC ts 1 := by rw [HNx.out.2]; simp)
      have hcc' : Calls Try.prog 36 #[.slice ad (raws ts).length cap, .func (.func 35) #[] #[.pointer (some ⟨wr.heap.size, 0, none⟩)]] (wr.alloc (.cells #[.func (.func 58) #[] #[]] 68 (0, 0))) fun e w' => e = .returned (.bool (!allC ts 1)) ∧ Below (wr.alloc (.cells #[.func (.func 58) #[] #[]] 68 (0, 0))).heap.size (wr.alloc (.cells #[.func (.func 58) #[] #[]] 68 (0, 0))) w' := by
        rw [← hA]; exact hcc
      have HX : Hid (Calls Try.prog 36 _ _ _) := hcc'; have HC1 : Hid (compC ts 2 = (compC ts 1 && !allC ts 1)) := rfl; generalize allC ts 1 = x at *; obtain ⟨y, hy⟩ : ∃ y, y = compC ts 1 := ⟨_, rfl⟩; rw [← hy] at HC1 ⊢; have z2 := lt_of_block q2; have z3 := lt_of_block q3; clear hcc hcc' hA H0 H1 H2 H3 H4 HNx hy; (have hia := fun w => cls_at1 w)
      cases y
      all_goals
        go_wp2_with (first
          | (go_at_call 36
             refine HX.out.mono ?_; rintro e w3 ⟨rfl, hb3⟩; have s0 := below_keep hb3 (alloc_keep q2 _); have s1 := below_keep hb3 (alloc_keep q3 _); have B3 := below_join (below_more hbr _) hb3; have e0 := blk_cell s0 1; have e1 := blk_fz s0 1
             simp at e0)
          | fail)
        have t0 := set_cell (j := 1) s0 (.bool x); rw [HAl.out] at t0; (have t1 : (w3.setCell ⟨w.heap.size, 1, none⟩ (.bool x)).heap[w.heap.size + 1]? = _ := (Below.heap_setCell _ _ _ _ (by simp)).trans s1); (have BF : Below w.heap.size w (w3.setCell ⟨w.heap.size, 1, none⟩ (.bool x)) := B3.setCell (by simp) _)
        go_roundg (5 - (1 + 1))
        case measure => have := HG.out; omega
        case rel => exact ⟨2, by omega, rfl, by go_num, by rw [HC1.out]; simp, BF, t0, t1⟩
    · have HNx : Hid (compC ts 3 = (compC ts 2 && !allC ts 2) ∧ allC ts 2 = !ts.any fun t => !clsT 2 t) := ⟨rfl, rfl⟩
      have HAl : Hid ((#[allV ts 2 0, allV ts 2 1, allV ts 2 2, allV ts 2 3, allV ts 2 4]).setIfInBounds 2 (.bool (allC ts 2)) = #[allV ts 3 0, allV ts 3 1, allV ts 3 2, allV ts 3 3, allV ts 3 4]) := by
        show _ = _; simp [allV]
      have hcc := H2.out wr.heap.size (.slice ad (raws ts).length cap) (wr.alloc (.cells #[.func (.func 59) #[] #[]] 68 (0, 0))) (HV.out.up (below_more hbr _)) (blk_new _ _); (have hA : (ts.any fun t => !clsT 2 t) = !allC ts 2 := by rw [HNx.out.2]; simp)
      have hcc' : Calls Try.prog 36 #[.slice ad (raws ts).length cap, .func (.func 35) #[] #[.pointer (some ⟨wr.heap.size, 0, none⟩)]] (wr.alloc (.cells #[.func (.func 59) #[] #[]] 68 (0, 0))) fun e w' => e = .returned (.bool (!allC ts 2)) ∧ Below (wr.alloc (.cells #[.func (.func 59) #[] #[]] 68 (0, 0))).heap.size (wr.alloc (.cells #[.func (.func 59) #[] #[]] 68 (0, 0))) w' := by
        rw [← hA]; exact hcc
      have HX : Hid (Calls Try.prog 36 _ _ _) := hcc'; have HC1 : Hid (compC ts 3 = (compC ts 2 && !allC ts 2)) := rfl; generalize allC ts 2 = x at *; obtain ⟨y, hy⟩ : ∃ y, y = compC ts 2 := ⟨_, rfl⟩; rw [← hy] at HC1 ⊢; have z2 := lt_of_block q2; have z3 := lt_of_block q3; clear hcc hcc' hA H0 H1 H2 H3 H4 HNx hy; (have hia := fun w => cls_at2 w)
      cases y
      all_goals
        go_wp2_with (first
          | (go_at_call 36
             refine HX.out.mono ?_; rintro e w3 ⟨rfl, hb3⟩; have s0 := below_keep hb3 (alloc_keep q2 _); have s1 := below_keep hb3 (alloc_keep q3 _); have B3 := below_join (below_more hbr _) hb3; have e0 := blk_cell s0 2; have e1 := blk_fz s0 2
             simp at e0)
          | fail)
        have t0 := set_cell (j := 2) s0 (.bool x); rw [HAl.out] at t0; (have t1 : (w3.setCell ⟨w.heap.size, 2, none⟩ (.bool x)).heap[w.heap.size + 1]? = _ := (Below.heap_setCell _ _ _ _ (by simp)).trans s1); (have BF : Below w.heap.size w (w3.setCell ⟨w.heap.size, 2, none⟩ (.bool x)) := B3.setCell (by simp) _)
        go_roundg (5 - (2 + 1))
        case measure => have := HG.out; omega
        case rel => exact ⟨3, by omega, rfl, by go_num, by rw [HC1.out]; simp, BF, t0, t1⟩
    · have HNx : Hid (compC ts 4 = (compC ts 3 && !allC ts 3) ∧ allC ts 3 = !ts.any fun t => !clsT 3 t) := ⟨rfl, rfl⟩
      have HAl : Hid ((#[allV ts 3 0, allV ts 3 1, allV ts 3 2, allV ts 3 3, allV ts 3 4]).setIfInBounds 3 (.bool (allC ts 3)) = #[allV ts 4 0, allV ts 4 1, allV ts 4 2, allV ts 4 3, allV ts 4 4]) := by
        show _ = _; simp [allV]
      have hcc := H3.out wr.heap.size (.slice ad (raws ts).length cap) (wr.alloc (.cells #[.func (.func 60) #[] #[]] 68 (0, 0))) (HV.out.up (below_more hbr _)) (blk_new _ _); (have hA : (ts.any fun t => !clsT 3 t) = !allC ts 3 := by rw [HNx.out.2]; simp)
      have hcc' : Calls Try.prog 36 #[.slice ad (raws ts).length cap, .func (.func 35) #[] #[.pointer (some ⟨wr.heap.size, 0, none⟩)]] (wr.alloc (.cells #[.func (.func 60) #[] #[]] 68 (0, 0))) fun e w' => e = .returned (.bool (!allC ts 3)) ∧ Below (wr.alloc (.cells #[.func (.func 60) #[] #[]] 68 (0, 0))).heap.size (wr.alloc (.cells #[.func (.func 60) #[] #[]] 68 (0, 0))) w' := by
        rw [← hA]; exact hcc
      have HX : Hid (Calls Try.prog 36 _ _ _) := hcc'; have HC1 : Hid (compC ts 4 = (compC ts 3 && !allC ts 3)) := rfl; generalize allC ts 3 = x at *; obtain ⟨y, hy⟩ : ∃ y, y = compC ts 3 := ⟨_, rfl⟩; rw [← hy] at HC1 ⊢; have z2 := lt_of_block q2; have z3 := lt_of_block q3; clear hcc hcc' hA H0 H1 H2 H3 H4 HNx hy; (have hia := fun w => cls_at3 w)
      cases y
      all_goals
        go_wp2_with (first
          | (go_at_call 36
             refine HX.out.mono ?_; rintro e w3 ⟨rfl, hb3⟩; have s0 := below_keep hb3 (alloc_keep q2 _); have s1 := below_keep hb3 (alloc_keep q3 _); have B3 := below_join (below_more hbr _) hb3; have e0 := blk_cell s0 3; have e1 := blk_fz s0 3
             simp at e0)
          | fail)
        have t0 := set_cell (j := 3) s0 (.bool x); rw [HAl.out] at t0; (have t1 : (w3.setCell ⟨w.heap.size, 3, none⟩ (.bool x)).heap[w.heap.size + 1]? = _ := (Below.heap_setCell _ _ _ _ (by simp)).trans s1); (have BF : Below w.heap.size w (w3.setCell ⟨w.heap.size, 3, none⟩ (.bool x)) := B3.setCell (by simp) _)
        go_roundg (5 - (3 + 1))
        case measure => have := HG.out; omega
        case rel => exact ⟨4, by omega, rfl, by go_num, by rw [HC1.out]; simp, BF, t0, t1⟩
    · have HNx : Hid (compC ts 5 = (compC ts 4 && !allC ts 4) ∧ allC ts 4 = !ts.any fun t => !clsT 4 t) := ⟨rfl, rfl⟩
      have HAl : Hid ((#[allV ts 4 0, allV ts 4 1, allV ts 4 2, allV ts 4 3, allV ts 4 4]).setIfInBounds 4 (.bool (allC ts 4)) = #[allV ts 5 0, allV ts 5 1, allV ts 5 2, allV ts 5 3, allV ts 5 4]) := by
        show _ = _; simp [allV]
      have hcc := H4.out wr.heap.size (.slice ad (raws ts).length cap) (wr.alloc (.cells #[.func (.func 61) #[] #[]] 68 (0, 0))) (HV.out.up (below_more hbr _)) (blk_new _ _); (have hA : (ts.any fun t => !clsT 4 t) = !allC ts 4 := by rw [HNx.out.2]; simp)
      have hcc' : Calls Try.prog 36 #[.slice ad (raws ts).length cap, .func (.func 35) #[] #[.pointer (some ⟨wr.heap.size, 0, none⟩)]] (wr.alloc (.cells #[.func (.func 61) #[] #[]] 68 (0, 0))) fun e w' => e = .returned (.bool (!allC ts 4)) ∧ Below (wr.alloc (.cells #[.func (.func 61) #[] #[]] 68 (0, 0))).heap.size (wr.alloc (.cells #[.func (.func 61) #[] #[]] 68 (0, 0))) w' := by
        rw [← hA]; exact hcc
      have HX : Hid (Calls Try.prog 36 _ _ _) := hcc'; have HC1 : Hid (compC ts 5 = (compC ts 4 && !allC ts 4)) := rfl; generalize allC ts 4 = x at *; obtain ⟨y, hy⟩ : ∃ y, y = compC ts 4 := ⟨_, rfl⟩; rw [← hy] at HC1 ⊢; have z2 := lt_of_block q2; have z3 := lt_of_block q3; clear hcc hcc' hA H0 H1 H2 H3 H4 HNx hy; (have hia := fun w => cls_at4 w)
      cases y
      all_goals
        go_wp2_with (first
          | (go_at_call 36
             refine HX.out.mono ?_; rintro e w3 ⟨rfl, hb3⟩; have s0 := below_keep hb3 (alloc_keep q2 _); have s1 := below_keep hb3 (alloc_keep q3 _); have B3 := below_join (below_more hbr _) hb3; have e0 := blk_cell s0 4; have e1 := blk_fz s0 4
             simp at e0)
          | fail)
        have t0 := set_cell (j := 4) s0 (.bool x); rw [HAl.out] at t0; (have t1 : (w3.setCell ⟨w.heap.size, 4, none⟩ (.bool x)).heap[w.heap.size + 1]? = _ := (Below.heap_setCell _ _ _ _ (by simp)).trans s1); (have BF : Below w.heap.size w (w3.setCell ⟨w.heap.size, 4, none⟩ (.bool x)) := B3.setCell (by simp) _)
        go_roundg (5 - (4 + 1))
        case measure => have := HG.out; omega
        case rel => exact ⟨5, by omega, rfl, by go_num, by rw [HC1.out]; simp, BF, t0, t1⟩
end Go.Proofs.Ytmahgfgndfcmpab
