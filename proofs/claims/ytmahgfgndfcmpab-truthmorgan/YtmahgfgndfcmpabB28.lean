/- Texts of one proof, one behind the other: TC5. -/
import Derived.Test.YtmahgfgndfcmpabB26
import Derived.Laws.EntriesVeiled
/- Walks: Complete. -/
namespace Go.Proofs.Ytmahgfgndfcmpab
open Go.RowKit

def raws (ts : List Tb) : List (Int × List Bool) := ts.map fun t => ((t.n : Int), t.bits)

theorem TQ.at {w : World} {v : Value} {ts : List Tb} (h : TQ w v (raws ts)) : ∃ ad cap, v = .slice ad ts.length cap ∧ ts.length ≤ cap ∧ cap ≤ maxLen ∧ (ts ≠ [] → ∃ g off, ad = some ⟨g, off, none⟩ ∧ ∀ (j : Nat) (t : Tb), ts[j]? = some t → ∃ adB cpB, w.cell? ⟨g, off + j * 2, none⟩ = some (.int .i64 (t.n : Nat)) ∧ w.cell? ⟨g, off + j * 2 + 1, none⟩ = some (.slice adB t.bits.length cpB) ∧ TR w t (.agg #[.int .i64 (t.n : Nat), .slice adB t.bits.length cpB])) := by
  obtain ⟨ad, cap, h1, h2, h3, h4⟩ := h; (have hl : (raws ts).length = ts.length := by simp [raws]); rw [hl] at h1 h2; (refine ⟨ad, cap, h1, h2, h3, fun hne => ?_⟩); (obtain ⟨g, off, h5, h6⟩ := h4 (by simpa [raws] using hne)); (refine ⟨g, off, h5, fun j t ht => ?_⟩); (obtain ⟨adB, cpB, h7, h8, h9⟩ := h6 j ((t.n : Int), t.bits) (by simp [raws, ht])); exact ⟨adB, cpB, h7, h8, adB, cpB, rfl, h9⟩

/-- What is asked of tables. -/
structure PredT (fn : Nat) (cap : Array Value) (p : Tb → Bool) (Ok : World → Prop) : Prop where
  up : ∀ {w w' : World}, Ok w → Below w.heap.size w w' → Ok w'
  ent : ∀ (v : Value) (w : World), (callFunc fn (#[v] ++ cap)).run Try.prog w = .ok (.enter fn (#[v] ++ cap)) w
  call : ∀ (t : Tb) (v : Value) (w : World), Ok w → t.Ok → TR w t v → Calls Try.prog fn (#[v] ++ cap) w fun e w' => e = .returned (.bool (p t)) ∧ Below w.heap.size w w'

set_option maxHeartbeats 2000000 in
theorem idxFunc_tab {fn : Nat} {cp : Array Value} {p : Tb → Bool} {Ok : World → Prop} (A : PredT fn cp p Ok) (ts : List Tb) (hok : ∀ t ∈ ts, t.Ok) (v : Value) (w : World) (hv : TQ w v (raws ts)) (ho : Ok w) :
    Calls Try.prog 62 #[v, .func (.func fn) #[] cp] w fun e w' => ∃ j : Int, e = .returned (.int .i64 j) ∧ decide (0 ≤ j) = ts.any p ∧ Below w.heap.size w w' := by
  obtain ⟨ad, cap, rfl, h1, h2, h3⟩ := hv.at; (have hlI : (ts.length : Int) ≤ 9223372036854775807 := by unfold maxLen at h2; omega); have H3 : Hid (ts ≠ [] → ∃ g off, ad = some ⟨g, off, none⟩ ∧ ∀ (j : Nat) (t : Tb), ts[j]? = some t → ∃ adB cpB, w.cell? ⟨g, off + j * 2, none⟩ = some (.int .i64 (t.n : Nat)) ∧ w.cell? ⟨g, off + j * 2 + 1, none⟩ = some (.slice adB t.bits.length cpB) ∧ TR w t (.agg #[.int .i64 (t.n : Nat), .slice adB t.bits.length cpB])) := h3; (have HA : Hid (∀ (t : Tb) (v : Value) (w : World), Ok w → t.Ok → TR w t v → Calls Try.prog fn (#[v] ++ cp) w fun e w' => e = .returned (.bool (p t)) ∧ Below w.heap.size w w') := A.call); have HU : Hid (∀ {w w' : World}, Ok w → Below w.heap.size w w' → Ok w') := A.up; have HMx : Hid (∀ t ∈ ts, t.Ok) := hok; have HO : Hid (Ok w) := ho; have hcf := A.ent; clear h3 hok ho A hv
  go_enter Try.func62, Try.ntmps62
  go_wp2_with fail
  go_loopg [8] ts.length (fun g c wr => ∃ i, i ≤ ts.length ∧ g = ts.length - i ∧ c = .int .i64 (i : Nat) ∧ Below w.heap.size w wr ∧ Hid ((ts.take i).any p = false))
  case atStart => exact ⟨0, by omega, by omega, rfl, Below.refl _ _, by show _ = _; rfl⟩
  case round =>
    obtain ⟨i, hi, hg, rfl, hbr, HN⟩ := hrel; have HG : Hid (gk = ts.length - i) := hg; clear hg; by_cases hlt : i < ts.length
    · obtain ⟨t, ht⟩ : ∃ x, ts[i]? = some x := ⟨_, List.getElem?_eq_getElem hlt⟩
      (obtain ⟨g, off, rfl, hc⟩ := H3.out (fun e => by rw [e] at hlt; simp at hlt)); obtain ⟨adB, cpB, c0, c1, htr⟩ := hc i t ht; have g0 := (hbr.cell (p := ⟨g, off + i * 2, none⟩) (lt_of_cell c0)).trans c0; have g1 := (hbr.cell (p := ⟨g, off + i * 2 + 1, none⟩) (lt_of_cell c1)).trans c1; (have hltI : (i : Int) < (ts.length : Int) := by omega); (have hlc : (i : Int) < (cap : Int) := by omega); have hcc := HA.out t _ wr (HU.out HO.out hbr) (HMx.out t (List.mem_of_getElem? ht)) (htr.up hbr); (have HXi : Hid (p t = true → ts.any p = true) := fun hp => List.any_eq_true.2 ⟨t, List.mem_of_getElem? ht, hp⟩)
      have HXn : Hid (p t = false → (ts.take (i + 1)).any p = false) := fun hp => by
        rw [List.take_add_one, ht, List.any_append, HN.out]; simp [hp]
      generalize p t = bb at *; have HCC : Hid (Calls Try.prog fn _ wr _) := hcc; clear hc ht H3 hcc c0 c1 htr; go_wp2_with fail; refine HCC.out.mono ?_; rintro e w1 ⟨rfl, hb1⟩; have B1 := below_join hbr hb1
      cases bb
      · have HX := HXn.out (by first | rfl | trivial)
        have HX' : Hid ((ts.take (i + 1)).any p = false) := HX; clear HX HXn HXi; go_wp2_with fail
        go_roundg (ts.length - (i + 1))
        case measure => have := HG.out; omega
        case rel => exact ⟨i + 1, by omega, rfl, by go_num, B1, HX'⟩
      · have HX := HXi.out (by first | rfl | trivial)
        have HX' : Hid (ts.any p = true) := HX; clear HX HXn HXi; go_wp2_with fail; go_ret; (exact ⟨(i : Int), rfl, by rw [HX'.out]; exact decide_eq_true (by omega), B1⟩)
    · have HT : Hid (ts.any p = false) := by
        have := HN.out; (rw [List.take_of_length_le (by omega)] at this); exact this
      (have hge : ¬ (i : Int) < (ts.length : Int) := by omega); clear H3 HN; go_wp2_with fail; go_ret; (exact ⟨-1, rfl, by rw [HT.out]; rfl, hbr⟩)

set_option maxHeartbeats 1000000 in
theorem contains_tab {fn : Nat} {cp : Array Value} {p : Tb → Bool} {Ok : World → Prop} (A : PredT fn cp p Ok) (ts : List Tb) (hok : ∀ t ∈ ts, t.Ok) (v : Value) (w : World) (hv : TQ w v (raws ts)) (ho : Ok w) :
    Calls Try.prog 36 #[v, .func (.func fn) #[] cp] w fun e w' => e = .returned (.bool (ts.any p)) ∧ Below w.heap.size w w' := by
  have hx := idxFunc_tab A ts hok v w hv ho; have HX : Hid (Calls Try.prog 62 _ w _) := hx; obtain ⟨ad, cap, rfl, -⟩ := hv; clear hx hok ho A
  go_enter Try.func36, Try.ntmps36
  go_wp2_with (first
    | (go_at_call 62
       refine HX.out.mono ?_; rintro e w1 ⟨j, rfl, hj, hb1⟩; have HJ : Hid (decide (0 ≤ j) = ts.any p) := hj
       clear hj)
    | fail)
  go_ret; (exact ⟨by rw [← HJ.out]; rfl, hb1⟩)

/-! The closure of Complete. -/
theorem complete1_in (cap : Array Value) (w : World) : (callFunc 35 cap).run Try.prog w = .ok (.enter 35 cap) w := by
  simp [go_sem]

def OkF (cb fn : Nat) (w : World) : Prop := w.heap[cb]? = some (.cells #[.func (.func fn) #[] #[]] 68 (0, 0))

set_option maxHeartbeats 1000000 in
theorem complete1_any {fn : Nat} {p : Tb → Bool} (A : PredT fn #[] p (fun _ => True)) (cb : Nat) (t : Tb) (v : Value) (w : World) (hw : OkF cb fn w) (hok : t.Ok) (h : TR w t v) :
    Calls Try.prog 35 (#[v] ++ #[.pointer (some ⟨cb, 0, none⟩)]) w fun e w' => e = .returned (.bool (!p t)) ∧ Below w.heap.size w w' := by
  (have hcf : ∀ (v : Value) (w : World), (callFunc fn #[v]).run Try.prog w = .ok (.enter fn #[v]) w := fun v w => A.ent v w); obtain ⟨ad, cap, rfl, hbl⟩ := id h; have B0 := below_more (Below.refl _ w) (.cells #[.int .i64 (t.n : Nat), .slice ad t.bits.length cap] 33 (0, 0)); have hcc := A.call t _ _ trivial hok (h.up B0); generalize p t = bb at *; have HCC : Hid (Calls Try.prog fn #[.agg #[.int .i64 (t.n : Nat), .slice ad t.bits.length cap]] _ _) := hcc; have k1 := alloc_keep (show w.heap[cb]? = _ from hw) (.cells #[.int .i64 (t.n : Nat), .slice ad t.bits.length cap] 33 (0, 0)); obtain ⟨c1, -⟩ := blk1 k1; clear hcc h hbl hw k1; show Calls Try.prog 35 #[.agg #[.int .i64 (t.n : Nat), .slice ad t.bits.length cap], .pointer (some ⟨cb, 0, none⟩)] w _
  go_enter Try.func35, Try.ntmps35
  go_wp2_with fail; refine HCC.out.mono ?_; rintro e w1 ⟨rfl, hb1⟩; have B1 := below_join B0 hb1; go_wp2_with fail; go_ret; exact ⟨rfl, B1⟩

theorem predC {fn : Nat} {p : Tb → Bool} (A : PredT fn #[] p (fun _ => True)) (cb : Nat) : PredT 35 #[.pointer (some ⟨cb, 0, none⟩)] (fun t => !p t) (OkF cb fn) where
  up := fun h hb => below_keep hb h
  ent := fun _ w => complete1_in _ w
  call := fun t v w ho hok h => complete1_any A cb t v w ho hok h

theorem cl0_in (cap : Array Value) (w : World) : (callFunc 57 cap).run Try.prog w = .ok (.enter 57 cap) w := by simp [go_sem]
theorem cl1_in (cap : Array Value) (w : World) : (callFunc 58 cap).run Try.prog w = .ok (.enter 58 cap) w := by simp [go_sem]
theorem cl2_in (cap : Array Value) (w : World) : (callFunc 59 cap).run Try.prog w = .ok (.enter 59 cap) w := by simp [go_sem]
theorem cl3_in (cap : Array Value) (w : World) : (callFunc 60 cap).run Try.prog w = .ok (.enter 60 cap) w := by simp [go_sem]
theorem cl4_in (cap : Array Value) (w : World) : (callFunc 61 cap).run Try.prog w = .ok (.enter 61 cap) w := by simp [go_sem]

theorem pred0 : PredT 57 #[] (fun t => cls0 t.bits) (fun _ => True) := ⟨fun _ _ => trivial, fun _ w => cl0_in _ w, fun t v w _ hok h => class0_any t hok v w h⟩
theorem pred1 : PredT 58 #[] (fun t => cls1 t.bits) (fun _ => True) := ⟨fun _ _ => trivial, fun _ w => cl1_in _ w, fun t v w _ hok h => class1_any t hok v w h⟩
theorem pred2 : PredT 59 #[] (fun t => cls2 t.bits) (fun _ => True) := ⟨fun _ _ => trivial, fun _ w => cl2_in _ w, fun t v w _ hok h => selfDual_any t hok v w h⟩
theorem pred3 : PredT 60 #[] (fun t => cls3 t.n t.bits) (fun _ => True) := ⟨fun _ _ => trivial, fun _ w => cl3_in _ w, fun t v w _ hok h => rising_any t hok v w h⟩
theorem pred4 : PredT 61 #[] (fun t => cls4 t.n t.bits) (fun _ => True) := ⟨fun _ _ => trivial, fun _ w => cl4_in _ w, fun t v w _ hok h => sum_any t hok v w h⟩

set_option maxHeartbeats 1000000 in
theorem classes_any (w : World) : Calls Try.prog 34 #[] w fun e w' => e = .returned (.agg #[.func (.func 57) #[] #[], .func (.func 58) #[] #[], .func (.func 59) #[] #[], .func (.func 60) #[] #[], .func (.func 61) #[] #[]]) ∧ Below w.heap.size w w' := by
  go_enter Try.func34, Try.ntmps34
  go_wp2_with fail; (exact bodyPost_ret (v := .agg #[.func (.func 57) #[] #[], .func (.func 58) #[] #[], .func (.func 59) #[] #[], .func (.func 60) #[] #[], .func (.func 61) #[] #[]]) (by simp [results, Try.results34, go_sem]) rfl ⟨rfl, below_more (Below.refl _ w) _⟩)
end Go.Proofs.Ytmahgfgndfcmpab
