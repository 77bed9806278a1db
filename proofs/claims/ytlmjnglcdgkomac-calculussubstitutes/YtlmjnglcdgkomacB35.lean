/- Texts of one proof, one behind the other: CE6, CF1. -/
import Derived.Test.YtlmjnglcdgkomacB34
import Derived.Test.YtlmjnglcdgkomacB04
/- Walks: calculus.rules. -/
namespace Go.Proofs.Ytlmjnglcdgkomac
open Go.RowKit Go.Maps Go.WideMaps

def commonQ : List Ru := [.ax, .tr, .fa, .andL, .andR, .orL, .thenR, .notR, .contrL]
def moreQ (i : Bool) : List Ru := if i then [.orR1, .orR2, .thenL, .notL, .cut] else [.orR, .thenL, .notL, .contrR, .cut]
theorem rulesL_eq (i : Bool) : rulesL i = commonQ ++ moreQ i := by cases i <;> rfl
theorem texts_nodup (i : Bool) : ((rulesL i).map Ru.text).Nodup := by cases i <;> decide
theorem any_texts {L : List (List UInt8 × Value)} {qs : List Ru} (h : L.map (·.1) = qs.map Ru.text) (t : List UInt8) : (L.any fun p => decide (p.1 = t)) = qs.any fun q => decide (q.text = t) := by
  (have h1 : (L.any fun p => decide (p.1 = t)) = (L.map (·.1)).any fun x => decide (x = t) := by rw [List.any_map]; rfl); (have h2 : (qs.any fun q => decide (q.text = t)) = (qs.map Ru.text).any fun x => decide (x = t) := by rw [List.any_map]; rfl); rw [h1, h2, h]
theorem find_some_any {α : Type} (p : α → Bool) (l : List α) : (l.find? p).isSome = l.any p := by
  induction l with
  | nil => rfl
  | cons x l ih =>
    by_cases h : p x = true
    · rw [List.find?_cons_of_pos h, List.any_cons, h]; rfl
    · rw [List.find?_cons_of_neg h, List.any_cons, ih]
      simp only [Bool.not_eq_true] at h; rw [h, Bool.false_or]

/-- Two maps of rules in one. -/
theorem merged_rules {i : Bool} {B B' b n : Nat} {w : World} {L M : List (List UInt8 × Value)} (h1 : RL i B w L commonQ) (h2 : RL i B' w M (moreQ i)) (ho : w.ownsMap Try.prog 9 heldR b n (Lib.mergeD (putAll L) (putAll M)))
    {w0 : World} {b0 n0 : Nat} (hM : w0.ownsMap Try.prog 9 heldR b0 n0 (putAll M)) {w1 : World} {b1 n1 : Nat} (hL : w1.ownsMap Try.prog 9 heldR b1 n1 (putAll L)) : RulesAt i w b := by
  obtain ⟨es, hes, hpw, hkl⟩ := hM.entries strKeyed; have hnd := texts_nodup i; rw [rulesL_eq, List.map_append, List.nodup_append] at hnd
  have hhas : ∀ t : List UInt8, Maps.has (Lib.mergeD (putAll L) (putAll M)) (.string t) = (ruleOf i t).isSome := fun t => by
    unfold ruleOf; rw [hes, merge_has hL.isMap hkl, ← hes, putAll_has, putAll_has, any_texts h1.texts, any_texts h2.texts, find_some_any, rulesL_eq, List.any_append]
  (refine ⟨n, _, ho, hhas, fun t q hq => ?_⟩)
  have hqt : q.text = t := by
    have := List.find?_some hq; simpa using this
  have hqm := List.mem_of_find?_eq_some hq; rw [rulesL_eq, List.mem_append] at hqm; (have hmh : ∀ t : List UInt8, Maps.has (putAll M) (.string t) = (moreQ i).any fun q => decide (q.text = t) := fun t => by rw [putAll_has, any_texts h2.texts]); by_cases hm : q ∈ moreQ i
  · obtain ⟨v, hv, hr⟩ := h2.mem hm
    (refine ⟨v, B', fun z => ?_, hr⟩)
    have hh : Maps.has (.map es) (.string t) = true := by
      rw [← hes, hmh, List.any_eq_true]; (exact ⟨q, hm, by rw [hqt]; simp⟩)
    rw [hes, merge_at hL.isMap hkl hpw, if_pos hh, ← hes, ← hqt]; (exact putAll_at M (by rw [h2.texts]; exact hnd.2.1) q.text v hv z)
  · have hc : q ∈ commonQ := hqm.resolve_right hm
    obtain ⟨v, hv, hr⟩ := h1.mem hc; (refine ⟨v, B, fun z => ?_, hr⟩)
    have hh : ¬ Maps.has (.map es) (.string t) = true := by
      rw [← hes, hmh, List.any_eq_true]; rintro ⟨q', hq', he⟩; (have he' : q'.text = t := by simpa using he); (exact hnd.2.2 q.text (List.mem_map.2 ⟨q, hc, rfl⟩) q'.text (List.mem_map.2 ⟨q', hq', rfl⟩) (by rw [hqt, he']))
    rw [hes, merge_at hL.isMap hkl hpw, if_neg hh, ← hqt]; (exact putAll_at L (by rw [h1.texts]; exact hnd.1) q.text v hv z)

theorem merged_end {i : Bool} {I : Bool → Prop} {w w1 w2 w3 : World} {L M : List (List UInt8 × Value)} {n : Nat} (hi : I i) (h1 : MW (fun _ => True) w w.heap.size L commonQ w1) (h2 : MW I w1 w1.heap.size M (moreQ i) w2) (ho : w3.ownsMap Try.prog 9 heldR w.heap.size n (Lib.mergeD (putAll L) (putAll M))) (hg : w2.grownBy w3 (some w.heap.size)) :
    RulesAt i w3 w.heap.size ∧ Below w.heap.size w w3 := by
  have h12 := h2.below; refine ⟨merged_rules (((h1.rl i trivial).over (over_below h12)).over (over_grown hg)) ((h2.rl i hi).over (over_mono (over_grown hg) (Nat.le_of_lt h1.lt))) ho h2.map h1.map, ?_⟩; (exact below_map (below_join h1.below h12) hg (Nat.le_refl _) (by have := h12.size; have := h1.lt; omega))

theorem rulesCopy_any (bd bs nd ns : Nat) (Dd Ds : DataW Value) (w : World) (hd : w.ownsMap Try.prog 9 heldR bd nd Dd) (hs : w.ownsMap Try.prog 9 heldR bs ns Ds) (hne : bd ≠ bs) (hroom : nd + Maps.size Ds ≤ maxLen) :
    Calls Try.prog 31 #[.map (some bd), .map (some bs)] w fun e w' => e = .returned (.tuple #[]) ∧ w'.ownsMap Try.prog 9 heldR bd (nd + Maps.size Ds) (Lib.mergeD Dd Ds) ∧ w.grownBy w' (some bd) := by
  refine (AnyX.maps_Copy Try.copyLays strKeyed heldR bd bs nd ns Dd Ds w hd hs hne hroom).mono ?_; rintro e w' ⟨h1, h2, -, h4⟩; exact ⟨h1, h2, h4⟩

theorem RL.length {i : Bool} {B : Nat} {w : World} {L : List (List UInt8 × Value)} {qs : List Ru} (h : RL i B w L qs) : L.length = qs.length := by
  have := congrArg List.length h.texts; simpa using this

set_option maxHeartbeats 2000000 in
theorem rules_any (i : Bool) (w : World) : Calls Try.prog 27 #[.bool i] w fun e w' => ∃ b, e = .returned (.map (some b)) ∧ RulesAt i w' b ∧ Below w.heap.size w w' := by
  cases i
  · go_enter Try.func27, Try.ntmps27
    go_wp2_with fail; refine (commonRules_any w).mono ?_; rintro e w1 ⟨L, rfl, hL⟩; (have HL : Hid (MW (fun _ => True) w w.heap.size L commonQ w1) := hL); clear hL; go_wp2_with fail; refine (classicRules_any w1).mono ?_; rintro e w2 ⟨M, rfl, hM⟩; (have HM : Hid (MW (fun i => i = false) w1 w1.heap.size M (moreQ false) w2) := hM); clear hM; go_wp2_with fail; (refine (rulesCopy_any w.heap.size w1.heap.size _ _ _ _ w2 (HL.out.map.up HM.out.below) HM.out.map (by have := HL.out.lt; omega) ?_).mono ?_)
    · have h1 := (HL.out.rl false trivial).length
      have h2 := (HM.out.rl false rfl).length; have h3 := HM.out.map.size_le; rw [h1]; rw [h2] at h3; unfold maxLen; have : commonQ.length = 9 := rfl; have : (moreQ false).length = 5 := rfl; omega
    rintro e w3 ⟨rfl, ho, hg⟩; (have hE := merged_end (i := false) (I := fun i => i = false) rfl HL.out HM.out ho hg); have HE : Hid (RulesAt false w3 w.heap.size ∧ Below w.heap.size w w3) := hE; clear hE ho hg; go_wp2_with fail; go_ret; exact ⟨_, rfl, HE.out⟩
  · go_enter Try.func27, Try.ntmps27
    go_wp2_with fail; refine (commonRules_any w).mono ?_; rintro e w1 ⟨L, rfl, hL⟩; (have HL : Hid (MW (fun _ => True) w w.heap.size L commonQ w1) := hL); clear hL; go_wp2_with fail; refine (intuitRules_any w1).mono ?_; rintro e w2 ⟨M, rfl, hM⟩; (have HM : Hid (MW (fun i => i = true) w1 w1.heap.size M (moreQ true) w2) := hM); clear hM; go_wp2_with fail; (refine (rulesCopy_any w.heap.size w1.heap.size _ _ _ _ w2 (HL.out.map.up HM.out.below) HM.out.map (by have := HL.out.lt; omega) ?_).mono ?_)
    · have h1 := (HL.out.rl true trivial).length
      have h2 := (HM.out.rl true rfl).length; have h3 := HM.out.map.size_le; rw [h1]; rw [h2] at h3; unfold maxLen; have : commonQ.length = 9 := rfl; have : (moreQ true).length = 5 := rfl; omega
    rintro e w3 ⟨rfl, ho, hg⟩; (have hE := merged_end (i := true) (I := fun i => i = true) rfl HL.out HM.out ho hg); have HE : Hid (RulesAt true w3 w.heap.size ∧ Below w.heap.size w w3) := hE; clear hE ho hg; go_wp2_with fail; go_ret; exact ⟨_, rfl, HE.out⟩
end Go.Proofs.Ytlmjnglcdgkomac
/- Walks: stepOf. -/
namespace Go.Proofs.Ytlmjnglcdgkomac
open Go.RowKit

theorem blk7f {w : World} {b : Nat} {c0 c1 c2 c3 c4 c5 c6 : Value} {T : TypeId} (h : w.heap[b]? = some (.cells #[c0, c1, c2, c3, c4, c5, c6] T (0, 0))) : w.frozen? ⟨b, 0, none⟩ = false ∧ w.frozen? ⟨b, 1, none⟩ = false ∧ w.frozen? ⟨b, 2, none⟩ = false ∧ w.frozen? ⟨b, 3, none⟩ = false ∧ w.frozen? ⟨b, 4, none⟩ = false ∧ w.frozen? ⟨b, 5, none⟩ = false ∧ w.frozen? ⟨b, 6, none⟩ = false :=
  ⟨blk_fz h 0, blk_fz h 1, blk_fz h 2, blk_fz h 3, blk_fz h 4, blk_fz h 5, blk_fz h 6⟩
def put7 (w : World) (b : Nat) (y0 y1 y2 y3 y4 y5 y6 : Value) : World := ((((((w.setCell ⟨b, 0, none⟩ y0).setCell ⟨b, 1, none⟩ y1).setCell ⟨b, 2, none⟩ y2).setCell ⟨b, 3, none⟩ y3).setCell ⟨b, 4, none⟩ y4).setCell ⟨b, 5, none⟩ y5).setCell ⟨b, 6, none⟩ y6
theorem put7_blk {w : World} {b : Nat} {x0 x1 x2 x3 x4 x5 x6 : Value} {T : TypeId} (h : w.heap[b]? = some (.cells #[x0, x1, x2, x3, x4, x5, x6] T (0, 0))) (y0 y1 y2 y3 y4 y5 y6 : Value) :
    (put7 w b y0 y1 y2 y3 y4 y5 y6).heap[b]? = some (.cells #[y0, y1, y2, y3, y4, y5, y6] T (0, 0)) := by
  simp [put7, World.setCell, Array.getElem?_modify, h]
theorem put7_other {w : World} {b i : Nat} (h : i ≠ b) (y0 y1 y2 y3 y4 y5 y6 : Value) : (put7 w b y0 y1 y2 y3 y4 y5 y6).heap[i]? = w.heap[i]? := by
  unfold put7
  repeat rw [Below.heap_setCell _ _ _ _ h]
theorem put7_below {B : Nat} {a w : World} {b : Nat} (h : Below B a w) (hb : B ≤ b) (y0 y1 y2 y3 y4 y5 y6 : Value) : Below B a (put7 w b y0 y1 y2 y3 y4 y5 y6) :=
  ((((((h.setCell (p := ⟨b, 0, none⟩) hb y0).setCell (p := ⟨b, 1, none⟩) hb y1).setCell (p := ⟨b, 2, none⟩) hb y2).setCell (p := ⟨b, 3, none⟩) hb y3).setCell (p := ⟨b, 4, none⟩) hb y4).setCell (p := ⟨b, 5, none⟩) hb y5).setCell (p := ⟨b, 6, none⟩) hb y6

def kFLp (P : Nat → Prop) (l : List Fm) : Value → World → Prop := fun v w => ∃ ad m cap, v = .slice ad m cap ∧ FLp P w (.slice ad m cap) l
theorem kFLp_stays (P : Nat → Prop) (l : List Fm) : Stays (kFLp P l) := fun _ _ _ h hb => by
  obtain ⟨ad, m, cap, hv, hl⟩ := h; exact ⟨ad, m, cap, hv, hl.up hb⟩
def kSt (P : Nat → Prop) (c0 c1 c2 vl vr : Value) (g d : List Fm) : Value → World → Prop := fun v w => ∃ ad m cap ad' m' cap', v = .agg #[c0, c1, c2, vl, vr, .slice ad m cap, .slice ad' m' cap'] ∧ FLp P w (.slice ad m cap) g ∧ FLp P w (.slice ad' m' cap') d
theorem kSt_stays (P : Nat → Prop) (c0 c1 c2 vl vr : Value) (g d : List Fm) : Stays (kSt P c0 c1 c2 vl vr g d) := fun _ _ _ h hb => by
  obtain ⟨ad, m, cap, ad', m', cap', hv, h1, h2⟩ := h; exact ⟨ad, m, cap, ad', m', cap', hv, h1.up hb, h2.up hb⟩
/-- What stepOf leaves. -/
theorem step_end {w w2 : World} {f : Fm} {l r : List Fm} {c0 c1 c2 vl vr vg vd : Value} (hf : Rep w (fun _ => True) f (.agg #[c0, c1, c2])) (hl : FL w vl l) (hr : FL w vr r) (hB : Below w.heap.size w w2)
    (hg : FLp (fun b => b < w.heap.size ∨ w.heap.size + 3 ≤ b) w2 vg (l.erase f)) (hd : FLp (fun b => b < w.heap.size ∨ w.heap.size + 3 ≤ b) w2 vd (r.erase f)) (y0 y1 y2 y3 y4 y5 y6 : Value) :
    StV (put7 w2 (w.heap.size + 1 + 1) y0 y1 y2 y3 y4 y5 y6) (.agg #[c0, c1, c2, vl, vr, vg, vd]) f l r := by
  (have hB' := put7_below (b := w.heap.size + 1 + 1) hB (by omega) y0 y1 y2 y3 y4 y5 y6); (refine ⟨c0, c1, c2, vl, vr, vg, vd, rfl, hf.up hB', hl.up hB', hr.up hB', (hg.move fun k _ hk => ⟨put7_other (by omega) _ _ _ _ _ _ _, hk⟩).list, (hd.move fun k _ hk => ⟨put7_other (by omega) _ _ _ _ _ _ _, hk⟩).list⟩)

set_option maxRecDepth 10000 in
set_option maxHeartbeats 8000000 in
theorem stepOf_any (f : Fm) (l r : List Fm) (hl4 : l.length ≤ 300) (hr4 : r.length ≤ 300) (u vl vr : Value) (w : World) (hf : Rep w (fun _ => True) f u) (hl : FL w vl l) (hr : FL w vr r) :
    Calls Try.prog 63 #[u, .agg #[vl, vr]] w fun e w' => ∃ x, e = .returned x ∧ StV w' x f l r ∧ Below w.heap.size w w' := by
  obtain ⟨k, n, ks⟩ := f; obtain ⟨sf, cf, rfl⟩ := slice_shape hf; (have HF : Hid (Rep w (fun _ => True) (.mk k n ks) _) := hf); have HL : Hid (FL w vl l) := hl; have HR : Hid (FL w vr r) := hr; obtain ⟨adl, cpl, rfl, -⟩ := hl; obtain ⟨adr, cpr, rfl, -⟩ := hr; obtain ⟨O1, hO1⟩ : ∃ O, O = Obj.cells #[.int .i64 k, .string n, .slice sf ks.length cf] 24 (0, 0) := ⟨_, rfl⟩; obtain ⟨O2, hO2⟩ : ∃ O, O = Obj.cells #[.slice adl l.length cpl, .slice adr r.length cpr] 26 (0, 0) := ⟨_, rfl⟩; obtain ⟨O3, hO3⟩ : ∃ O, O = Obj.cells #[.int .i64 0, .string ⟨#[]⟩, .slice none 0 0, .slice none 0 0, .slice none 0 0, .slice none 0 0, .slice none 0 0] 72 (0, 0) := ⟨_, rfl⟩; obtain ⟨W, hW⟩ : ∃ W, W = ((w.alloc O1).alloc O2).alloc O3 := ⟨_, rfl⟩; (have B0 : Below w.heap.size w W := by rw [hW]; exact below_more (below_more (below_more (Below.refl _ w) _) _) _); (have z0 : W.heap.size = w.heap.size + 3 := by rw [hW]; simp); (have p1 : W.heap[w.heap.size]? = some O1 := by rw [hW]; exact alloc_keep (alloc_keep (blk_new w _) _) _); (have p2 : W.heap[w.heap.size + 1]? = some O2 := by rw [hW]; exact alloc_keep (blk_two w _ _) _); (have p3 : W.heap[w.heap.size + 1 + 1]? = some O3 := by rw [hW]; exact blk_three w _ _ _); rw [hO1] at p1; rw [hO2] at p2; rw [hO3] at p3; have P1 : Hid (W.heap[w.heap.size]? = some _) := p1; have P2 : Hid (W.heap[w.heap.size + 1]? = some _) := p2; have P3 : Hid (W.heap[w.heap.size + 1 + 1]? = some _) := p3
  have HWL : Hid (∀ wx, Below W.heap.size W wx → Calls Try.prog 71 #[.slice adl l.length cpl, .agg #[.int .i64 k, .string n, .slice sf ks.length cf]] wx fun e w' => ∃ ad m cp, e = .returned (.slice ad m cp) ∧ FLp (fun b => b < w.heap.size ∨ w.heap.size + 3 ≤ b) w' (.slice ad m cp) (l.erase (.mk k n ks)) ∧ Below wx.heap.size wx w') := fun wx hb => by
    have hbx := below_join B0 hb; (refine (without_low w.heap.size l (.mk k n ks) (by omega) _ _ wx hbx.size ((HL.out.low).up hbx) (HF.out.up hbx)).mono ?_); rintro e w' ⟨x, rfl, hx, hb'⟩; have hx' := hx; obtain ⟨ad, cp, rfl, -⟩ := hx; (exact ⟨ad, _, cp, rfl, hx'.move fun q _ hq => ⟨rfl, hq.imp id fun h => by have := hb.size; omega⟩, hb'⟩)
  have HWR : Hid (∀ wx, Below W.heap.size W wx → Calls Try.prog 71 #[.slice adr r.length cpr, .agg #[.int .i64 k, .string n, .slice sf ks.length cf]] wx fun e w' => ∃ ad m cp, e = .returned (.slice ad m cp) ∧ FLp (fun b => b < w.heap.size ∨ w.heap.size + 3 ≤ b) w' (.slice ad m cp) (r.erase (.mk k n ks)) ∧ Below wx.heap.size wx w') := fun wx hb => by
    have hbx := below_join B0 hb; (refine (without_low w.heap.size r (.mk k n ks) (by omega) _ _ wx hbx.size ((HR.out.low).up hbx) (HF.out.up hbx)).mono ?_); rintro e w' ⟨x, rfl, hx, hb'⟩; have hx' := hx; obtain ⟨ad, cp, rfl, -⟩ := hx; (exact ⟨ad, _, cp, rfl, hx'.move fun q _ hq => ⟨rfl, hq.imp id fun h => by have := hb.size; omega⟩, hb'⟩)
  clear hf
  go_enter Try.func63, Try.ntmps63
  go_wp2_with fail; rw [← hO1, ← hO2, ← hO3, ← hW]; clear p1 p2 p3; (refine wp_region_last (by kernel_rfl) [kEq (.agg #[.int .i64 k, .string n, .slice sf ks.length cf]), kEq (.pointer (some ⟨w.heap.size + 1, 0, none⟩)), kEq (.slice adl l.length cpl), kEq (.pointer (some ⟨w.heap.size + 1, 1, none⟩)), kEq (.slice adr r.length cpr), kEq (.pointer (some ⟨w.heap.size + 1, 0, none⟩)), kEq (.slice adl l.length cpl), kEq (.agg #[.int .i64 k, .string n, .slice sf ks.length cf]), kFLp (fun b => b < w.heap.size ∨ w.heap.size + 3 ≤ b) (l.erase (.mk k n ks)), kEq (.pointer (some ⟨w.heap.size + 1, 1, none⟩)), kEq (.slice adr r.length cpr), kEq (.agg #[.int .i64 k, .string n, .slice sf ks.length cf]), kFLp (fun b => b < w.heap.size ∨ w.heap.size + 3 ≤ b) (r.erase (.mk k n ks)), kSt (fun b => b < w.heap.size ∨ w.heap.size + 3 ≤ b) (.int .i64 k) (.string n) (.slice sf ks.length cf) (.slice adl l.length cpl) (.slice adr r.length cpr) (l.erase (.mk k n ks)) (r.erase (.mk k n ks))] ?_ (by kernel_rfl) (by kernel_rfl) 19 rfl (by kernel_rfl) 14 _ rfl rfl (by kernel_rfl) ?_ ?_)
  · intro p hp
    simp only [List.mem_cons, List.not_mem_nil, or_false] at hp
    rcases hp with rfl | rfl | rfl | rfl | rfl | rfl | rfl | rfl | rfl | rfl | rfl | rfl | rfl | rfl
    all_goals first | exact kEq_stays _ | exact kFLp_stays _ _ | exact kSt_stays _ _ _ _ _ _ _ _
  · refine ⟨?_, ?_, ?_, ?_, ?_, ?_, ?_, ?_, ?_, ?_, ?_, ?_, ?_, ?_, trivial⟩
    · intro a wx hB hold hdep K hK
      have t2 : a.tmps[2]? = some (.pointer (some ⟨w.heap.size, 0, none⟩)) := hold.2.2 2 rfl; obtain ⟨k0, k1, k2, -⟩ := blk3 (below_keep hB P1.out); clear hold hdep; go_simp; exact hK.out _ _ rfl (Below.refl _ _)
    · intro a wx hB hold hdep K hK
      have t3 : a.tmps[3]? = some (.pointer (some ⟨w.heap.size + 1, 0, none⟩)) := hold.2.2 3 rfl; clear hold hdep; go_simp; exact hK.out _ _ rfl (Below.refl _ _)
    · intro a wx hB hold hdep K hK
      obtain ⟨v6, t6, p6⟩ := hdep 1 rfl _ 6 rfl rfl; have e6 : v6 = (.pointer (some ⟨w.heap.size + 1, 0, none⟩)) := p6; subst e6; obtain ⟨k0, k1, -⟩ := blk2 (below_keep hB P2.out); clear hold hdep; go_simp; exact hK.out _ _ rfl (Below.refl _ _)
    · intro a wx hB hold hdep K hK
      have t3 : a.tmps[3]? = some (.pointer (some ⟨w.heap.size + 1, 0, none⟩)) := hold.2.2 3 rfl; clear hold hdep; go_simp; exact hK.out _ _ rfl (Below.refl _ _)
    · intro a wx hB hold hdep K hK
      obtain ⟨v8, t8, p8⟩ := hdep 3 rfl _ 8 rfl rfl; have e8 : v8 = (.pointer (some ⟨w.heap.size + 1, 1, none⟩)) := p8; subst e8; obtain ⟨k0, k1, -⟩ := blk2 (below_keep hB P2.out); clear hold hdep; go_simp; exact hK.out _ _ rfl (Below.refl _ _)
    · intro a wx hB hold hdep K hK
      have t3 : a.tmps[3]? = some (.pointer (some ⟨w.heap.size + 1, 0, none⟩)) := hold.2.2 3 rfl; clear hold hdep; go_simp; exact hK.out _ _ rfl (Below.refl _ _)
    · intro a wx hB hold hdep K hK
      obtain ⟨v10, t10, p10⟩ := hdep 5 rfl _ 10 rfl rfl; have e10 : v10 = (.pointer (some ⟨w.heap.size + 1, 0, none⟩)) := p10; subst e10; obtain ⟨k0, k1, -⟩ := blk2 (below_keep hB P2.out); clear hold hdep; go_simp; exact hK.out _ _ rfl (Below.refl _ _)
    · intro a wx hB hold hdep K hK
      have t2 : a.tmps[2]? = some (.pointer (some ⟨w.heap.size, 0, none⟩)) := hold.2.2 2 rfl; obtain ⟨k0, k1, k2, -⟩ := blk3 (below_keep hB P1.out); clear hold hdep; go_simp; exact hK.out _ _ rfl (Below.refl _ _)
    · intro a wx hB hold hdep K hK
      obtain ⟨v11, t11, p11⟩ := hdep 6 rfl _ 11 rfl rfl; have e11 : v11 = (.slice adl l.length cpl) := p11; subst e11; obtain ⟨v12, t12, p12⟩ := hdep 7 rfl _ 12 rfl rfl; have e12 : v12 = (.agg #[.int .i64 k, .string n, .slice sf ks.length cf]) := p12; subst e12; clear hold hdep; go_simp; refine (HWL.out wx hB).mono ?_; rintro e w1 ⟨ad, m, cp, rfl, hx, hb⟩; exact hK.out _ _ ⟨_, _, _, rfl, hx⟩ hb
    · intro a wx hB hold hdep K hK
      have t3 : a.tmps[3]? = some (.pointer (some ⟨w.heap.size + 1, 0, none⟩)) := hold.2.2 3 rfl; clear hold hdep; go_simp; exact hK.out _ _ rfl (Below.refl _ _)
    · intro a wx hB hold hdep K hK
      obtain ⟨v14, t14, p14⟩ := hdep 9 rfl _ 14 rfl rfl; have e14 : v14 = (.pointer (some ⟨w.heap.size + 1, 1, none⟩)) := p14; subst e14; obtain ⟨k0, k1, -⟩ := blk2 (below_keep hB P2.out); clear hold hdep; go_simp; exact hK.out _ _ rfl (Below.refl _ _)
    · intro a wx hB hold hdep K hK
      have t2 : a.tmps[2]? = some (.pointer (some ⟨w.heap.size, 0, none⟩)) := hold.2.2 2 rfl; obtain ⟨k0, k1, k2, -⟩ := blk3 (below_keep hB P1.out); clear hold hdep; go_simp; exact hK.out _ _ rfl (Below.refl _ _)
    · intro a wx hB hold hdep K hK
      obtain ⟨v15, t15, p15⟩ := hdep 10 rfl _ 15 rfl rfl; have e15 : v15 = (.slice adr r.length cpr) := p15; subst e15; obtain ⟨v16, t16, p16⟩ := hdep 11 rfl _ 16 rfl rfl; have e16 : v16 = (.agg #[.int .i64 k, .string n, .slice sf ks.length cf]) := p16; subst e16; clear hold hdep; go_simp; refine (HWR.out wx hB).mono ?_; rintro e w1 ⟨ad, m, cp, rfl, hx, hb⟩; exact hK.out _ _ ⟨_, _, _, rfl, hx⟩ hb
    · intro a wx hB hold hdep K hK
      obtain ⟨v5, t5, p5⟩ := hdep 0 rfl _ 5 rfl rfl; have e5 : v5 = (.agg #[.int .i64 k, .string n, .slice sf ks.length cf]) := p5; subst e5; obtain ⟨v7, t7, p7⟩ := hdep 2 rfl _ 7 rfl rfl; have e7 : v7 = (.slice adl l.length cpl) := p7; subst e7; obtain ⟨v9, t9, p9⟩ := hdep 4 rfl _ 9 rfl rfl; have e9 : v9 = (.slice adr r.length cpr) := p9; subst e9; obtain ⟨v13, t13, adg, mg, cpg, e13, p13⟩ := hdep 8 rfl _ 13 rfl rfl; obtain ⟨v17, t17, add, md, cpd, e17, p17⟩ := hdep 12 rfl _ 17 rfl rfl; subst e13 e17; have HG : Hid (FLp _ wx _ _) := p13; have HD : Hid (FLp _ wx _ _) := p17; clear hold hdep p13 p17; go_simp; exact hK.out _ _ ⟨_, _, _, _, _, _, rfl, HG.out, HD.out⟩ (Below.refl _ _)
  · intro a wx hB hold hgot K hK
    have t4 : a.tmps[4]? = some (.pointer (some ⟨w.heap.size + 1 + 1, 0, none⟩)) := hold.2.2 4 rfl; have hD : a.defers = [] := hold.2.1; (obtain ⟨v18, t18, adg, mg, cpg, add, md, cpd, e18, hg, hd⟩ := hgot 13 _ 18 (by omega) rfl rfl); subst e18; have HG : Hid (FLp _ wx _ (l.erase (.mk k n ks))) := hg; have HD : Hid (FLp _ wx _ (r.erase (.mk k n ks))) := hd; have q3 := below_keep hB P3.out; have HQ : Hid (wx.heap[w.heap.size + 1 + 1]? = some _) := q3; obtain ⟨j0, j1, j2, j3, j4, j5, j6⟩ := blk7 q3; obtain ⟨m0, m1, m2, m3, m4, m5, m6⟩ := blk7f q3; clear hold hgot hg hd q3; go_simp; refine hK.out _ _ ?_; have hE := step_end HF.out HL.out HR.out (below_join B0 hB) HG.out HD.out (.int .i64 k) (.string n) (.slice sf ks.length cf) (.slice adl l.length cpl) (.slice adr r.length cpr) (.slice adg mg cpg) (.slice add md cpd); have f7 := put7_blk HQ.out (.int .i64 k) (.string n) (.slice sf ks.length cf) (.slice adl l.length cpl) (.slice adr r.length cpr) (.slice adg mg cpg) (.slice add md cpd); (have b7 := put7_below (b := w.heap.size + 1 + 1) (below_join B0 hB) (by omega) (.int .i64 k) (.string n) (.slice sf ks.length cf) (.slice adl l.length cpl) (.slice adr r.length cpr) (.slice adg mg cpg) (.slice add md cpd)); show Exit.then _ _ _ _ (put7 wx (w.heap.size + 1 + 1) _ _ _ _ _ _ _); generalize put7 wx (w.heap.size + 1 + 1) _ _ _ _ _ _ _ = F at *; have HE : Hid (StV F _ (.mk k n ks) l r) := hE; clear hE j0 j1 j2 j3 j4 j5 j6 m0 m1 m2 m3 m4 m5 m6; obtain ⟨j0, j1, j2, j3, j4, j5, j6⟩ := blk7 f7; go_wp2_with fail; (exact bodyPost_ret (v := .agg #[.int .i64 k, .string n, .slice sf ks.length cf, .slice adl l.length cpl, .slice adr r.length cpr, .slice adg mg cpg, .slice add md cpd]) (by simp [results, Try.results63, go_sem, t4, j0, j1, j2, j3, j4, j5, j6]) hD ⟨_, rfl, HE.out, b7⟩)
end Go.Proofs.Ytlmjnglcdgkomac
