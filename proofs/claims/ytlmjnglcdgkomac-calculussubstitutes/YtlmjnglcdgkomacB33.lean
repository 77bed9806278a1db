/- Texts of one proof, one behind the other: CE2, CE3. -/
import Derived.Test.YtlmjnglcdgkomacB31
import Derived.Maps.OwnSet
import Derived.Shelf.SlMaps.Copy
/- Walks: each rule (made by gen/ce2.py). -/
namespace Go.Proofs.Ytlmjnglcdgkomac
open Go.RowKit

theorem and_l_p : PremFn 41 5 (fun f l r => [(l.erase f ++ [f.kidA, f.kidB], r)]) := ⟨fun s w => by simp [go_sem], fun f l r s w hf hk hl hr hs => by
  obtain ⟨a, b, e, -, -, -, -⟩ := fine_two_of hf (Or.inl hk); rw [hk] at e; subst e; obtain ⟨ka, na, ksa⟩ := a; obtain ⟨kb, nb, ksb⟩ := b
  exact and_l _ _ _ _ _ _ _ _ l r hl hr s w hs⟩
theorem and_r_p : PremFn 45 5 (fun f l r => [(l, r.erase f ++ [f.kidA]), (l, r.erase f ++ [f.kidB])]) := ⟨fun s w => by simp [go_sem], fun f l r s w hf hk hl hr hs => by
  obtain ⟨a, b, e, -, -, -, -⟩ := fine_two_of hf (Or.inl hk); rw [hk] at e; subst e; obtain ⟨ka, na, ksa⟩ := a; obtain ⟨kb, nb, ksb⟩ := b
  exact and_r _ _ _ _ _ _ _ _ l r hl hr s w hs⟩
theorem or_l_p : PremFn 46 6 (fun f l r => [(l.erase f ++ [f.kidA], r), (l.erase f ++ [f.kidB], r)]) := ⟨fun s w => by simp [go_sem], fun f l r s w hf hk hl hr hs => by
  obtain ⟨a, b, e, -, -, -, -⟩ := fine_two_of hf (Or.inr (Or.inl hk)); rw [hk] at e; subst e; obtain ⟨ka, na, ksa⟩ := a; obtain ⟨kb, nb, ksb⟩ := b
  exact or_l _ _ _ _ _ _ _ _ l r hl hr s w hs⟩
theorem then_r_p : PremFn 47 7 (fun f l r => [(l ++ [f.kidA], r.erase f ++ [f.kidB])]) := ⟨fun s w => by simp [go_sem], fun f l r s w hf hk hl hr hs => by
  obtain ⟨a, b, e, -, -, -, -⟩ := fine_two_of hf (Or.inr (Or.inr hk)); rw [hk] at e; subst e; obtain ⟨ka, na, ksa⟩ := a; obtain ⟨kb, nb, ksb⟩ := b
  exact then_r _ _ _ _ _ _ _ _ l r hl hr s w hs⟩
theorem not_r_p : PremFn 48 4 (fun f l r => [(l ++ [f.kidA], r.erase f)]) := ⟨fun s w => by simp [go_sem], fun f l r s w hf hk hl hr hs => by
  obtain ⟨a, e, -, -⟩ := fine_one_of hf hk; subst e; obtain ⟨ka, na, ksa⟩ := a
  exact not_r _ _ _ _ _ l r hl hr s w hs⟩
theorem or_r1_p : PremFn 50 6 (fun f l _ => [(l, [f.kidA])]) := ⟨fun s w => by simp [go_sem], fun f l r s w hf hk hl hr hs => by
  obtain ⟨a, b, e, -, -, -, -⟩ := fine_two_of hf (Or.inr (Or.inl hk)); rw [hk] at e; subst e; obtain ⟨ka, na, ksa⟩ := a; obtain ⟨kb, nb, ksb⟩ := b
  exact or_r1 _ _ _ _ _ _ _ _ l r hl hr s w hs⟩
theorem or_r2_p : PremFn 51 6 (fun f l _ => [(l, [f.kidB])]) := ⟨fun s w => by simp [go_sem], fun f l r s w hf hk hl hr hs => by
  obtain ⟨a, b, e, -, -, -, -⟩ := fine_two_of hf (Or.inr (Or.inl hk)); rw [hk] at e; subst e; obtain ⟨ka, na, ksa⟩ := a; obtain ⟨kb, nb, ksb⟩ := b
  exact or_r2 _ _ _ _ _ _ _ _ l r hl hr s w hs⟩
theorem then_li_p : PremFn 52 7 (fun f l r => [(l.erase f, [f.kidA]), (l.erase f ++ [f.kidB], r)]) := ⟨fun s w => by simp [go_sem], fun f l r s w hf hk hl hr hs => by
  obtain ⟨a, b, e, -, -, -, -⟩ := fine_two_of hf (Or.inr (Or.inr hk)); rw [hk] at e; subst e; obtain ⟨ka, na, ksa⟩ := a; obtain ⟨kb, nb, ksb⟩ := b
  exact then_li _ _ _ _ _ _ _ _ l r hl hr s w hs⟩
theorem not_li_p : PremFn 53 4 (fun f l _ => [(l.erase f, [f.kidA])]) := ⟨fun s w => by simp [go_sem], fun f l r s w hf hk hl hr hs => by
  obtain ⟨a, e, -, -⟩ := fine_one_of hf hk; subst e; obtain ⟨ka, na, ksa⟩ := a
  exact not_li _ _ _ _ _ l r hl hr s w hs⟩
theorem or_r_p : PremFn 55 6 (fun f l r => [(l, r.erase f ++ [f.kidA, f.kidB])]) := ⟨fun s w => by simp [go_sem], fun f l r s w hf hk hl hr hs => by
  obtain ⟨a, b, e, -, -, -, -⟩ := fine_two_of hf (Or.inr (Or.inl hk)); rw [hk] at e; subst e; obtain ⟨ka, na, ksa⟩ := a; obtain ⟨kb, nb, ksb⟩ := b
  exact or_r _ _ _ _ _ _ _ _ l r hl hr s w hs⟩
theorem then_lc_p : PremFn 56 7 (fun f l r => [(l.erase f, r ++ [f.kidA]), (l.erase f ++ [f.kidB], r)]) := ⟨fun s w => by simp [go_sem], fun f l r s w hf hk hl hr hs => by
  obtain ⟨a, b, e, -, -, -, -⟩ := fine_two_of hf (Or.inr (Or.inr hk)); rw [hk] at e; subst e; obtain ⟨ka, na, ksa⟩ := a; obtain ⟨kb, nb, ksb⟩ := b
  exact then_lc _ _ _ _ _ _ _ _ l r hl hr s w hs⟩
theorem not_lc_p : PremFn 57 4 (fun f l r => [(l.erase f, r ++ [f.kidA])]) := ⟨fun s w => by simp [go_sem], fun f l r s w hf hk hl hr hs => by
  obtain ⟨a, e, -, -⟩ := fine_one_of hf hk; subst e; obtain ⟨ka, na, ksa⟩ := a
  exact not_lc _ _ _ _ _ l r hl hr s w hs⟩

set_option maxHeartbeats 1000000 in
theorem nothing_any (f : Fm) (l r : List Fm) (s : Value) (w : World) (hs : StV w s f l r) : Calls Try.prog 39 #[s] w fun e w' => ∃ x, e = .returned x ∧ SQs w' x [] ∧ Below w.heap.size w w' := by
  obtain ⟨c0, c1, c2, vl, vr, vg, vd, rfl, hrep, ⟨adl, cpl, rfl, -⟩, ⟨adr, cpr, rfl, -⟩, ⟨adg, cpg, rfl, -⟩, ⟨add, cpd, rfl, -⟩⟩ := hs; obtain ⟨k, n, ks⟩ := f; obtain ⟨sf, cf, hfv⟩ := slice_shape hrep; simp only [Value.agg.injEq, Array.mk.injEq, List.cons.injEq, and_true] at hfv; obtain ⟨rfl, rfl, rfl⟩ := hfv; clear hrep
  go_enter Try.func39, Try.ntmps39
  go_wp2_with fail; go_ret; exact ⟨_, rfl, SQs.nil, below_more (Below.refl _ w) _⟩
theorem nothing_p (kind : Int) : PremFn 39 kind (fun _ _ _ => []) := ⟨fun s w => by simp [go_sem], fun f l r s w _ _ _ _ hs => nothing_any f l r s w hs⟩

set_option maxHeartbeats 2000000 in
theorem ax_any (f : Fm) (l r : List Fm) (s : Value) (w : World) (hs : StV w s f l r) :
    Calls Try.prog 35 #[s] w fun e w' => e = .returned (.tuple #[.slice none 0 0, .bool (decide (f ∈ l) && decide (f ∈ r))]) ∧ Below w.heap.size w w' := by
  (have hil := fun s (w : World) h => isLeft_any f l r s w h); (have hir := fun s (w : World) h => isRight_any f l r s w h); have HS : Hid (StV w s f l r) := hs; obtain ⟨c0, c1, c2, vl, vr, vg, vd, rfl, hrep, ⟨adl, cpl, rfl, -⟩, ⟨adr, cpr, rfl, -⟩, ⟨adg, cpg, rfl, -⟩, ⟨add, cpd, rfl, -⟩⟩ := hs; obtain ⟨k, n, ks⟩ := f; obtain ⟨sf, cf, hfv⟩ := slice_shape hrep; simp only [Value.agg.injEq, Array.mk.injEq, List.cons.injEq, and_true] at hfv; obtain ⟨rfl, rfl, rfl⟩ := hfv; have HIL : Hid (∀ s w, StV w s (.mk k n ks) l r → Calls Try.prog 36 #[s] w _) := hil; have HIR : Hid (∀ s w, StV w s (.mk k n ks) l r → Calls Try.prog 37 #[s] w _) := hir; clear hrep hil hir; generalize decide (Fm.mk k n ks ∈ l) = bl at *; generalize decide (Fm.mk k n ks ∈ r) = br at *; obtain ⟨O, hO⟩ : ∃ O, O = Obj.cells #[.int .i64 k, .string n, .slice sf ks.length cf, .slice adl l.length cpl, .slice adr r.length cpr, .slice adg (l.erase (.mk k n ks)).length cpg, .slice add (r.erase (.mk k n ks)).length cpd] 72 (0, 0) := ⟨_, rfl⟩; have B0 := below_more (Below.refl _ w) O
  cases bl
  · go_enter Try.func35, Try.ntmps35
    go_wp2_with fail; rw [← hO]; refine (HIL.out _ _ (HS.out.up B0)).mono ?_; rintro e w1 ⟨rfl, hb1⟩; have B1 := below_join B0 hb1; go_wp2_with fail; go_ret2; exact ⟨rfl, B1⟩
  · go_enter Try.func35, Try.ntmps35
    go_wp2_with fail; rw [← hO]; refine (HIL.out _ _ (HS.out.up B0)).mono ?_; rintro e w1 ⟨rfl, hb1⟩; have B1 := below_join B0 hb1; have qq := below_keep hb1 (blk_new w O); rw [hO] at qq; obtain ⟨k0, k1, k2, k3, k4, k5, k6⟩ := blk7 qq; go_wp2_with fail; refine (HIR.out _ _ (HS.out.up B1)).mono ?_; rintro e w2 ⟨rfl, hb2⟩; have B2 := below_join B1 hb2; go_wp2_with fail; go_ret2; (exact ⟨by cases br <;> rfl, B2⟩)

theorem ax_rule (i : Bool) (B : Nat) (w : World) : RuleFn i .ax (.func (.func 35) #[] #[]) B w := ⟨_, _, rfl, fun s w => by simp [go_sem], fun w' _ f l r s _ _ _ hs => by
  refine (ax_any f l r s w' hs).mono ?_; rintro e w'' ⟨rfl, hb⟩; by_cases h : f ∈ l ∧ f ∈ r
  · refine ⟨_, by simp only [prem, if_pos h, decide_eq_true h.1, decide_eq_true h.2]; rfl, fun ss hss => ?_, hb⟩
    simp only [prem, if_pos h] at hss; rw [← Option.some.inj hss]; exact SQs.nil
  · refine ⟨.slice none 0 0, ?_, fun ss hss => ?_, hb⟩
    · have : (decide (f ∈ l) && decide (f ∈ r)) = false := by
        by_cases h1 : f ∈ l
        · rw [decide_eq_true h1, decide_eq_false fun h2 => h ⟨h1, h2⟩]; rfl
        · rw [decide_eq_false h1]; rfl
      rw [this]; simp only [prem, if_neg h]; rfl
    · simp only [prem, if_neg h] at hss
      cases hss⟩
theorem contr_l_rule (i : Bool) (B : Nat) (w : World) : RuleFn i .contrL (.func (.func 49) #[] #[]) B w := ⟨_, _, rfl, fun s w => by simp [go_sem], fun w' _ f l r s _ hl hr hs => by
  obtain ⟨k, n, ks⟩ := f; refine (contr_l k n ks l r hl hr s w' hs).mono ?_; rintro e w'' ⟨x, rfl, hx, hb⟩; by_cases h : Fm.mk k n ks ∈ l
  · refine ⟨x, by simp only [prem, if_pos h, decide_eq_true h]; rfl, fun ss hss => ?_, hb⟩
    simp only [prem, if_pos h] at hss; rw [← Option.some.inj hss]; exact hx
  · refine ⟨x, by simp only [prem, if_neg h, decide_eq_false h]; rfl, fun ss hss => ?_, hb⟩
    simp only [prem, if_neg h] at hss
    cases hss⟩
theorem contr_r_rule (B : Nat) (w : World) : RuleFn false .contrR (.func (.func 58) #[] #[]) B w := ⟨_, _, rfl, fun s w => by simp [go_sem], fun w' _ f l r s _ hl hr hs => by
  obtain ⟨k, n, ks⟩ := f; refine (contr_r k n ks l r hl hr s w' hs).mono ?_; rintro e w'' ⟨x, rfl, hx, hb⟩; by_cases h : Fm.mk k n ks ∈ r
  · refine ⟨x, by simp only [prem, if_pos h, decide_eq_true h]; rfl, fun ss hss => ?_, hb⟩
    simp only [prem, if_pos h] at hss; rw [← Option.some.inj hss]; exact hx
  · refine ⟨x, by simp only [prem, if_neg h, decide_eq_false h]; rfl, fun ss hss => ?_, hb⟩
    simp only [prem, if_neg h] at hss
    cases hss⟩
theorem cut_c_rule (B : Nat) (w : World) : RuleFn false .cut (.func (.func 59) #[] #[]) B w := ⟨_, _, rfl, fun s w => by simp [go_sem], fun w' _ f l r s _ hl hr hs => by
  obtain ⟨k, n, ks⟩ := f; refine (cut_c k n ks l r hl hr s w' hs).mono ?_; rintro e w'' ⟨x, rfl, hx, hb⟩; (refine ⟨x, rfl, fun ss hss => ?_, hb⟩); rw [← Option.some.inj hss]
  exact hx⟩
theorem cut_i_rule (B : Nat) (w : World) : RuleFn true .cut (.func (.func 54) #[] #[]) B w := ⟨_, _, rfl, fun s w => by simp [go_sem], fun w' _ f l r s _ hl hr hs => by
  obtain ⟨k, n, ks⟩ := f; refine (cut_i k n ks l r hl hr s w' hs).mono ?_; rintro e w'' ⟨x, rfl, hx, hb⟩; (refine ⟨x, rfl, fun ss hss => ?_, hb⟩); rw [← Option.some.inj hss]
  exact hx⟩
end Go.Proofs.Ytlmjnglcdgkomac
/- Walks: the maps of rules (made by gen/ce3.py). -/
namespace Go.Proofs
open Go.Shelf
def Try.copyRen : Go.Shelf.Ren := ⟨fun | 5 => 31 | n => n, fun | 4 => 4 | 23 => 59 | 24 => 59 | 26 => 9 | 27 => 68 | n => n, fun n => n⟩
theorem Try.copyLays : SlLaysX.n5 Try.prog Try.copyRen := {
  mixed := by kernel_rfl
  f5 := ⟨Try.f31.name, by kernel_rfl, Try.func31.trans (congrArg some (by kernel_rfl))⟩
  t0 := by kernel_rfl
  a0 := fun w => by kernel_rfl
  z0 := fun w => by kernel_rfl
  v0 := fun w => by kernel_rfl
  t4 := by kernel_rfl
  a4 := fun w => by kernel_rfl
  z4 := fun w => by kernel_rfl
  v4 := fun w => by kernel_rfl
  t23 := by kernel_rfl
  a23 := fun w => by kernel_rfl
  z23 := fun w => by kernel_rfl
  v23 := fun w => by kernel_rfl
  t24 := by kernel_rfl
  a24 := fun w => by kernel_rfl
  z24 := fun w => by kernel_rfl
  v24 := fun w => by kernel_rfl
  a26 := fun w => by kernel_rfl
  z26 := fun w => by kernel_rfl
  a27 := fun w => by kernel_rfl
  z27 := fun w => by kernel_rfl }
end Go.Proofs
namespace Go.Proofs.Ytlmjnglcdgkomac
open Go.RowKit Go.Maps Go.WideMaps

def heldR (v : Value) : Option (DataW Value × List MemPlace) := some (.held v, [])
def putAll (L : List (List UInt8 × Value)) : DataW Value := L.foldl (fun D p => D.put (.string p.1) (.held p.2)) (.map [])
theorem putAll_snoc (L : List (List UInt8 × Value)) (p : List UInt8 × Value) : putAll (L ++ [p]) = (putAll L).put (.string p.1) (.held p.2) := by simp [putAll]
/-- A map of function values. -/
def RMap (w : World) (b : Nat) (L : List (List UInt8 × Value)) : Prop := w.ownsMap Try.prog 9 heldR b L.length (putAll L)
theorem grown_of_below {w w' : World} (h : Below w.heap.size w w') : w.grownBy w' none := ⟨h.os, h.tape, h.output, h.size, fun i hi _ => h.block i hi⟩
theorem RMap.up {w w' : World} {b : Nat} {L : List (List UInt8 × Value)} (h : RMap w b L) (hb : Below w.heap.size w w') : RMap w' b L := World.ownsMap.kept h (grown_of_below hb) (by simp)
theorem RMap.made (w : World) : RMap (w.alloc (.map #[] 0)) w.heap.size [] := World.ownsMap_made _ _ _ _

/-- Texts and function values that are the rules. -/
def RL (i : Bool) (B : Nat) (w : World) : List (List UInt8 × Value) → List Ru → Prop
  | [], [] => True
  | p :: L, q :: qs => p.1 = q.text ∧ RuleFn i q p.2 B w ∧ RL i B w L qs
  | _, _ => False
theorem RL.over {i : Bool} {B : Nat} {w w' : World} (hb : Over B w w') : ∀ {L : List (List UInt8 × Value)} {qs : List Ru}, RL i B w L qs → RL i B w' L qs
  | [], [], _ => trivial
  | _ :: _, _ :: _, h => ⟨h.1, h.2.1.over hb, RL.over hb h.2.2⟩
theorem RL.snoc {i : Bool} {B : Nat} {w : World} {q : Ru} {v : Value} (h' : RuleFn i q v B w) : ∀ {L : List (List UInt8 × Value)} {qs : List Ru}, RL i B w L qs → RL i B w (L ++ [(q.text, v)]) (qs ++ [q])
  | [], [], _ => ⟨rfl, h', trivial⟩
  | _ :: _, _ :: _, h => ⟨h.1, h.2.1, RL.snoc h' h.2.2⟩
theorem below_map {B b : Nat} {w w1 w2 : World} (h : Below B w w1) (hg : w1.grownBy w2 (some b)) (hB : B ≤ b) (hs : B ≤ w1.heap.size) : Below B w w2 := h.grown hg hs (fun j hj => by cases hj; exact hB)

/-- On the way: the map at block B, its rules. -/
structure MW (I : Bool → Prop) (w : World) (B : Nat) (L : List (List UInt8 × Value)) (qs : List Ru) (wx : World) : Prop where
  map : RMap wx B L
  rl : ∀ i, I i → RL i B wx L qs
  below : Below w.heap.size w wx
  lt : B < wx.heap.size
theorem MW.up {I : Bool → Prop} {w wx wy : World} {B : Nat} {L : List (List UInt8 × Value)} {qs : List Ru} (h : MW I w B L qs wx) (hb : Below wx.heap.size wx wy) : MW I w B L qs wy :=
  ⟨h.map.up hb, fun i hi => (h.rl i hi).over (over_below hb), below_join h.below hb, Nat.lt_of_lt_of_le h.lt hb.size⟩
theorem MW.put {I : Bool → Prop} {w wx wy : World} {L : List (List UInt8 × Value)} {qs : List Ru} {q : Ru} {v : Value} (h : MW I w w.heap.size L qs wx) (hr : ∀ i, I i → RuleFn i q v w.heap.size wx) (hg : wx.grownBy wy (some w.heap.size)) (ho : wy.ownsMap Try.prog 9 heldR w.heap.size (L.length + 1) ((putAll L).put (.string q.text) (.held v))) : MW I w w.heap.size (L ++ [(q.text, v)]) (qs ++ [q]) wy :=
  ⟨by
    show World.ownsMap _ _ _ _ _ _ _; rw [putAll_snoc, List.length_append]
    exact ho, fun i hi => ((h.rl i hi).over (over_grown hg)).snoc ((hr i hi).over (over_grown hg)), below_map h.below hg (Nat.le_refl _) (Nat.le_of_lt h.lt), Nat.lt_of_lt_of_le h.lt hg.size⟩
theorem MW.ins {I : Bool → Prop} {w wx : World} {L : List (List UInt8 × Value)} {qs : List Ru} (h : MW I w w.heap.size L qs wx) (q : Ru) (v : Value) (hl : L.length ≤ 20) (hr : ∀ i, I i → RuleFn i q v w.heap.size wx) : ∃ wy, (Instr.mapUpdate 59 (.map (some w.heap.size)) (.string ⟨q.text.toArray⟩) v).run Try.prog wx = .ok () wy ∧ MW I w w.heap.size (L ++ [(q.text, v)]) (qs ++ [q]) wy := by
  (have hq : q.text.length ≤ maxLen := by unfold maxLen; cases q <;> decide); (obtain ⟨wy, hrun, ho, hg⟩ := World.ownsMap.update h.map strKeyed Try.underlying59 (by unfold maxLen; omega) (keyStr q.text hq) (show heldR v = some (.held v, []) from rfl)); exact ⟨wy, hrun, h.put hr hg ho⟩

end Go.Proofs.Ytlmjnglcdgkomac
