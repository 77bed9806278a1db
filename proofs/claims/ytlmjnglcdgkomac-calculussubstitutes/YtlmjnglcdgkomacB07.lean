/- Texts of one proof, one behind the other: Free3. -/
import Derived.Test.YtlmjnglcdgkomacB04
/- A region that draws its order, with one operation that writes what the region itself made, and a last one that waits for all others. -/
namespace Go.Proofs.Ytlmjnglcdgkomac
open Go.RowKit

/-- Facts on a value, a world, and on which operation made which block. -/
abbrev Fact := Value → World → (Nat → Nat) → Prop
def mark (w : World) (t : Nat → Nat) (i : Nat) : Nat → Nat := fun b => if b < w.heap.size then t b else i
def Stays3 (p : Fact) : Prop := ∀ v w t w' t', p v w t → Below w.heap.size w w' → (∀ b, b < w.heap.size → t' b = t b) → p v w' t'
def factAt (phi : List Fact) (i : Nat) : Fact := phi.getD i fun _ _ _ => True
abbrev Rel3 := World → (Nat → Nat) → World → Prop
def relAt (x : Nat) (Rw : Rel3) (i : Nat) (w : World) (t : Nat → Nat) (w' : World) : Prop := cond (i == x) (Rw w t w') (Below w.heap.size w w')
/-- Operations that come before x, and x. -/
def earlyAt (ops : Array Oper) (x i : Nat) : Bool := i == x || (match ops[x]? with | some o => waits .any o i | none => false)
/-- Operations that come behind x. -/
def lateOk (ops : Array Oper) (x : Nat) (ls : List Nat) : Bool := ls.all fun i => match ops[i]? with | some o => waits .any o x || (List.range i).any (fun j => waits .any o j && ls.contains j) | none => true
/-- What is still asked for stays when x writes. -/
def LiveStay (x : Nat) (ds ls : List Nat) (Rw : Rel3) : Nat → List Fact → Prop
  | _, [] => True
  | i, p :: ps => ((i == x || ds.contains i || ls.contains i) = false → ∀ v w t w' t', p v w t → Rw w t w' → (∀ b, b < w.heap.size → t' b = t b) → p v w' t') ∧ LiveStay x ds ls Rw (i + 1) ps
section
variable {P : Program} {ops : Array Oper} {Q : Exit → Act → World → Prop} {a0 : Act} {W : World}
theorem LiveStay.get {x : Nat} {ds ls : List Nat} {Rw : Rel3} : ∀ {i : Nat} {ps : List Fact}, LiveStay x ds ls Rw i ps → ∀ (j : Nat), i + j ≠ x → ds.contains (i + j) = false → ls.contains (i + j) = false → ∀ v w t w' t', factAt ps j v w t → Rw w t w' → (∀ b, b < w.heap.size → t' b = t b) → factAt ps j v w' t'
  | _, [], _, j, _, _, _, _, _, _, _, _, _, _, _ => by simp [factAt]
  | i, p :: ps, h, 0, h1, h2, h6, v, w, t, w', t', h3, h4, h5 => h.1 (by rw [Nat.add_zero] at h1 h2 h6; rw [h2, h6, Bool.or_false, Bool.or_false]; simpa using h1) v w t w' t' h3 h4 h5
  | i, p :: ps, h, j + 1, h1, h2, h6, v, w, t, w', t', h3, h4, h5 => LiveStay.get h.2 j (by omega) (by rw [show i + 1 + j = i + (j + 1) by omega]; exact h2) (by rw [show i + 1 + j = i + (j + 1) by omega]; exact h6) v w t w' t' h3 h4 h5

structure Way3 (ops : Array Oper) (phi : List Fact) (a0 : Act) (BB : Bool → World → Prop) (ds : List Nat) (x : Nat) (listed : Array Bool) (a : Act) (w : World) (t : Nat → Nat) : Prop where
  below : BB (listed.getD x false) w
  old : OldSlots ops a0 a
  got : ∀ i o d, ops[i]? = some o → listed.getD i false = true → (ds.contains i = true → listed.getD x false = false) → o.dst = some d → ∃ v, a.tmps[d]? = some v ∧ factAt phi i v w t
  fits : ∀ o d, o ∈ ops.toList → o.dst = some d → d < a0.tmps.size
  closed : ∀ i o, ops[i]? = some o → listed.getD i false = true → ∀ j, waits .any o j = true → listed.getD j false = true
theorem Way3.late {phi : List Fact} {BB : Bool → World → Prop} {ds : List Nat} {x : Nat} {ls : List Nat} {listed : Array Bool} {a : Act} {w : World} {t : Nat → Nat} (h : Way3 ops phi a0 BB ds x listed a w t) (hsz : listed.size = ops.size) (hl : lateOk ops x ls = true) : ∀ (n i : Nat), i < n → listed.getD i false = true → ls.contains i = true → listed.getD x false = true
  | 0, i, h0, _, _ => by omega
  | n + 1, i, h0, h1, h2 => by
    have hlt : i < ops.size := by
      rw [Array.getD_eq_getD_getElem?] at h1
      rcases Nat.lt_or_ge i ops.size with h3 | h3
      · exact h3
      · rw [Array.getElem?_eq_none (by omega)] at h1; cases h1
    have ho : ops[i]? = some ops[i] := Array.getElem?_eq_getElem hlt; unfold lateOk at hl; (have h3 := List.all_eq_true.1 hl i (by simpa using h2)); simp only [ho] at h3; rw [Bool.or_eq_true] at h3
    rcases h3 with h3 | h3
    · exact h.closed i _ ho h1 x h3
    · rw [List.any_eq_true] at h3
      obtain ⟨j, hj, h4⟩ := h3; rw [Bool.and_eq_true] at h4; (exact Way3.late h hsz (by unfold lateOk; exact hl) n j (by have := List.mem_range.1 hj; omega) (h.closed i _ ho h1 j h4.1) h4.2)

/-- What is to be shown of one operation. -/
def StepOk3 (P : Program) (ops : Array Oper) (Q : Exit → Act → World → Prop) (phi : List Fact) (a0 : Act) (BB : Bool → World → Prop) (ds : List Nat) (x : Nat) (Rw : Rel3) (i : Nat) (o : Oper) : Prop :=
  ∀ a w t s, BB s w → (earlyAt ops x i = true → s = false) → OldSlots ops a0 a →
    (∀ j, (waits .any o j && (earlyAt ops x i || !ds.contains j)) = true → ∀ o' d, ops[j]? = some o' → o'.dst = some d → ∃ v, a.tmps[d]? = some v ∧ factAt phi j v w t) →
    ∀ K : Act → World → Prop, Hid (∀ v w', factAt phi i v w' (mark w t i) → relAt x Rw i w t w' → K (a.put o.dst v) w') → if Region.wanted o (yielded ops a.tmps) = true then Oper.wp P o a w K Q else K (a.put o.dst undef) w
def StepsOk3 (P : Program) (ops : Array Oper) (Q : Exit → Act → World → Prop) (phi : List Fact) (a0 : Act) (BB : Bool → World → Prop) (ds : List Nat) (x : Nat) (Rw : Rel3) : Nat → List Oper → Prop
  | _, [] => True
  | i, o :: os => StepOk3 P ops Q phi a0 BB ds x Rw i o ∧ StepsOk3 P ops Q phi a0 BB ds x Rw (i + 1) os
theorem StepsOk3.get {phi : List Fact} {BB : Bool → World → Prop} {ds : List Nat} {x : Nat} {Rw : Rel3} : ∀ {i : Nat} {os : List Oper}, StepsOk3 P ops Q phi a0 BB ds x Rw i os → ∀ (j : Nat) (o : Oper), os[j]? = some o → StepOk3 P ops Q phi a0 BB ds x Rw (i + j) o
  | _, [], _, j, o, h => by simp at h
  | i, y :: os, hs, j, o, h => by
    cases j with
    | zero => simp at h; subst h; exact hs.1
    | succ j =>
      (have := StepsOk3.get hs.2 j o (by simpa using h))
      rwa [show i + 1 + j = i + (j + 1) by omega] at this

/-- **The region**: operation x may write, by Rw, what no other that is still waited for speaks of; the last waits for all. -/
theorem wp_region_one {id : Nat} (hm : P.follows .mixedOrders = true) (phi : List Fact) (hst : ∀ p ∈ phi, Stays3 p) (ht : tidyOps ops = true) (hb : backOps ops = true) (N : Nat) (hN : a0.tmps.size = N) (hf : ops.toList.all (fun o => match o.dst with | some d => decide (d < N) | none => true) = true)
    (m : Nat) (ol : Oper) (hm1 : ops.size = m + 1) (hol : ops[m]? = some ol) (hw : (List.range m).all (waits .any ol) = true)
    (ds : List Nat) (x : Nat) (hxm : x < m) (Rw : Rel3) (BB : Bool → World → Prop) (hB0 : BB false W) (hB1 : ∀ s w w', BB s w → Below w.heap.size w w' → BB s w') (hB2 : ∀ w t w', BB false w → Rw w t w' → BB true w') (ls : List Nat) (hlate : lateOk ops x ls = true) (hls : LiveStay x ds ls Rw 0 phi)
    (hs : StepsOk3 P ops Q phi a0 BB ds x Rw 0 (ops.toList.take m))
    (he : ∀ a w t, BB true w → OldSlots ops a0 a → (∀ i o d, i < m → ds.contains i = false → ops[i]? = some o → o.dst = some d → ∃ v, a.tmps[d]? = some v ∧ factAt phi i v w t) → ∀ K : Act → World → Prop, Hid (∀ a' w', Q .normal a' w' → K a' w') → if Region.wanted ol (yielded ops a.tmps) = true then Oper.wp P ol a w K Q else K (a.put ol.dst undef) w) : (Code.region id ops true).wp P Q a0 W := by
  have hst' : ∀ i, Stays3 (factAt phi i) := fun i => by
    unfold factAt; rw [List.getD_eq_getElem?_getD]
    rcases Nat.lt_or_ge i phi.length with h | h
    · rw [List.getElem?_eq_getElem h]
      exact hst _ (List.getElem_mem h)
    · rw [List.getElem?_eq_none h]
      (exact fun _ _ _ _ _ _ _ _ => trivial)
  have done : ∀ (fuel : Nat) (listed : Array Bool) (a : Act) (w : World), Region.ready .any ops listed = [] → Q .normal a w → wpAny P .any ops Q fuel listed a w := fun fuel listed a w hr hq => by
    cases fuel with
    | zero => exact ⟨hr, hq⟩
    | succ fuel => exact ⟨fun _ => hq, fun i hi => by rw [hr] at hi; cases hi⟩
  have main : ∀ (fuel : Nat) (listed : Array Bool) (a : Act) (w : World) (t : Nat → Nat), listed.size = ops.size → unl listed.toList ≤ fuel → listed.getD m true = false → Way3 ops phi a0 BB ds x listed a w t → wpAny P .any ops Q fuel listed a w := by
    have hend : ∀ (listed : Array Bool) (a : Act) (w : World), listed.size = ops.size → listed.getD m true = false → Region.ready .any ops listed = [] → Q .normal a w := fun listed a w hsz hm0 hr => by
      (have := all_listed hb hsz hr (m + 1) m (Nat.lt_succ_self _) (by omega)); (rw [Array.getD_eq_getD_getElem?, Array.getElem?_eq_getElem (by omega)] at this hm0); simp at this hm0; rw [hm0] at this
      cases this
    intro fuel
    induction fuel with
    | zero =>
      intro listed a w t hsz hu hmf hw
      have hr : Region.ready .any ops listed = [] := by
        rw [List.eq_nil_iff_forall_not_mem]; intro i hi; obtain ⟨h0, o, ho, -⟩ := mem_ready.1 hi; have hlt := (Array.getElem?_eq_some_iff.1 ho).1
        have h1 : listed.toList[i]? = some false := by
          (rw [Array.getElem?_toList, Array.getElem?_eq_getElem (by omega)]); (rw [Array.getD_eq_getD_getElem?, Array.getElem?_eq_getElem (by omega)] at h0); simpa using h0
        have := unl_set _ _ h1; omega
      exact ⟨hr, hend listed a w hsz hmf hr⟩
    | succ fuel ih =>
      intro listed a w t hsz hu hmf hwy; (refine ⟨hend listed a w hsz hmf, fun i hi => ?_⟩); obtain ⟨h0, o, ho, hdep⟩ := mem_ready.1 hi; have hlt := (Array.getElem?_eq_some_iff.1 ho).1
      have h1 : listed.toList[i]? = some false := by
        (rw [Array.getElem?_toList, Array.getElem?_eq_getElem (by omega)]); (rw [Array.getD_eq_getD_getElem?, Array.getElem?_eq_getElem (by omega)] at h0); simpa using h0
      have hu' := unl_set _ _ h1; by_cases him : i = m
      · subst him
        rw [hol] at ho
        cases ho
        have hall : ∀ j, j < i → listed.getD j false = true := fun j hj => by
          have hwj := List.all_eq_true.1 hw j (List.mem_range.2 hj); unfold waits at hwj; rw [List.any_eq_true] at hwj; obtain ⟨e, hk, hk2⟩ := hwj; rw [Bool.and_eq_true, beq_iff_eq] at hk2; have := hdep e (Array.mem_toList_iff.1 hk) hk2.1
          rwa [hk2.2] at this
        have hnone : Region.ready .any ops (listed.setIfInBounds i true) = [] := by
          rw [List.eq_nil_iff_forall_not_mem]; intro j hj; obtain ⟨g0, o', ho', -⟩ := mem_ready.1 hj; have hjl := (Array.getElem?_eq_some_iff.1 ho').1; by_cases hji : i = j
          · subst hji
            simp [hsz, hlt] at g0
          · rw [getD_set_ne true hji] at g0
            (have := hall j (by omega)); (rw [Array.getD_eq_getD_getElem?, Array.getElem?_eq_getElem (by omega)] at this g0); simp at this g0; rw [g0] at this
            cases this
        (have hstep := he a w t (by have := hwy.below; rwa [hall x hxm] at this) hwy.old (fun j o' d hj hdj hoj hd => hwy.got j o' d hoj (hall j hj) (fun e => by rw [hdj] at e; cases e) hd) (wpAny P .any ops Q fuel (listed.setIfInBounds i true)) (fun a' w' hq => done _ _ _ _ hnone hq)); unfold wpOp; simp only [hol]
        split
        · rename_i hw1
          rw [if_pos hw1] at hstep; exact Or.inl hstep
        · rename_i hw1
          rw [if_neg hw1] at hstep; exact hstep
      have hok : StepOk3 P ops Q phi a0 BB ds x Rw i o := by
        (have := hs.get i o (by rw [List.getElem?_take_of_lt (by omega), Array.getElem?_toList]; exact ho))
        rwa [Nat.zero_add] at this
      have hearly : earlyAt ops x i = true → listed.getD x false = false := fun e => by
        unfold earlyAt at e; rw [Bool.or_eq_true] at e
        rcases e with e | e
        · have e : i = x := by simpa using e
          rw [← e]; (rw [Array.getD_eq_getD_getElem?, Array.getElem?_eq_getElem (by omega)] at h0 ⊢); simpa using h0
        · cases hlx : listed.getD x false with
          | false => rfl
          | true =>
            cases hox : ops[x]? with
            | none => rw [hox] at e; cases e
            | some ox =>
              rw [hox] at e; have := hwy.closed x ox hox hlx i e; (rw [Array.getD_eq_getD_getElem?, Array.getElem?_eq_getElem (by omega)] at h0 this); simp at h0 this; rw [h0] at this
              cases this
      have hstep := hok a w t _ hwy.below hearly hwy.old (fun j hj o' d hj' hd => hwy.got j o' d hj' (by
        rw [Bool.and_eq_true] at hj; have hj := hj.1; unfold waits at hj; rw [List.any_eq_true] at hj; obtain ⟨e, hk, hk2⟩ := hj; rw [Bool.and_eq_true, beq_iff_eq] at hk2; have := hdep e (Array.mem_toList_iff.1 hk) hk2.1
        rwa [hk2.2] at this) (fun e => by
          rw [Bool.and_eq_true, e, Bool.not_true, Bool.or_false] at hj
          exact hearly hj.2) hd) (wpAny P .any ops Q fuel (listed.setIfInBounds i true)) (fun v w' hp hbw => by
        (refine ih _ _ _ (mark w t i) (by simpa using hsz) (by rw [Array.toList_setIfInBounds]; omega) (by rw [getD_set_ne true him]; exact hmf) ?_)
        have hbel : BB ((listed.setIfInBounds i true).getD x false) w' := by
          unfold relAt at hbw
          cases hix : i == x
          · rw [hix] at hbw
            (rw [getD_set_ne false (by simpa using hix)]); exact hB1 _ w w' hwy.below hbw
          · rw [hix] at hbw
            (have e : i = x := by simpa using hix)
            have h8 : listed.getD x false = false := by
              rw [← e]; (rw [Array.getD_eq_getD_getElem?, Array.getElem?_eq_getElem (by omega)] at h0 ⊢); simpa using h0
            have h9 : (listed.setIfInBounds i true).getD x false = true := by
              rw [← e]; simp [hsz, hlt]
            rw [h9]; have := hwy.below; rw [h8] at this; exact hB2 w t w' this hbw
        refine ⟨hbel, ?_, ?_, hwy.fits, ?_⟩
        case refine_3 =>
          intro j o' hj hlj k hk; by_cases hki : i = k
          · rw [← hki]
            simp [hsz, hlt]
          · rw [getD_set_ne false hki]
            by_cases hji : i = j
            · rw [← hji, ho] at hj
              cases hj
              unfold waits at hk; rw [List.any_eq_true] at hk; obtain ⟨e, hk1, hk2⟩ := hk; rw [Bool.and_eq_true, beq_iff_eq] at hk2; have := hdep e (Array.mem_toList_iff.1 hk1) hk2.1
              rwa [hk2.2] at this
            · rw [getD_set_ne false hji] at hlj
              exact hwy.closed j o' hj hlj k hk
        · obtain ⟨o1, o2, o3⟩ := hwy.old
          (refine ⟨?_, ?_, fun s ht' => ?_⟩)
          · cases hd : o.dst <;> simp [Act.put, o1]
          · cases hd : o.dst <;> simp [Act.put, o2]
          · rw [← o3 s ht']
            cases hd : o.dst with
            | none => rfl
            | some d =>
              have hne : d ≠ s := fun e => by
                have := List.all_eq_true.1 ht' o (Array.mem_toList_iff.2 (Array.mem_of_getElem? ho)); rw [hd, e] at this; simp at this
              simp [Act.put, Array.getElem?_setIfInBounds_ne hne]
        · intro j o' d hj hlj hdj hd
          by_cases hji : i = j
          · subst hji
            rw [ho] at hj
            cases hj
            have hdl : d < a.tmps.size := by rw [hwy.old.1]; exact hwy.fits o d (by
              rw [Array.mem_toList_iff]; exact Array.mem_of_getElem? ho) hd
            (exact ⟨v, by rw [hd]; simp [Act.put, hdl], hp⟩)
          · rw [getD_set_ne false hji] at hlj
            have hold : ds.contains j = true → listed.getD x false = false := fun e => by
              by_cases hix : i = x
              · rw [← hix]
                (rw [Array.getD_eq_getD_getElem?, Array.getElem?_eq_getElem (by omega)] at h0 ⊢); simpa using h0
              · have := hdj e
                rwa [getD_set_ne false hix] at this
            obtain ⟨u, hu1, hu2⟩ := hwy.got j o' d hj hlj hold hd; refine ⟨u, ?_, ?_⟩
            case refine_2 =>
              by_cases hix : i = x
              · have hb9 : Rw w t w' := by
                  unfold relAt at hbw; rw [hix, beq_self_eq_true] at hbw; exact hbw
                have hdd : ds.contains j = false := by
                  cases hd9 : ds.contains j with
                  | false => rfl
                  | true =>
                    have := hdj hd9; rw [← hix] at this; simp [hsz, hlt] at this
                have := hls.get j (by rw [Nat.zero_add, ← hix]; exact fun e => hji e.symm) (by rw [Nat.zero_add]; exact hdd) (by
                    rw [Nat.zero_add]
                    cases hlc : ls.contains j with
                    | false => rfl
                    | true =>
                      have h9 := hwy.late hsz hlate (j + 1) j (Nat.lt_succ_self _) hlj hlc; rw [← hix] at h9; (rw [Array.getD_eq_getD_getElem?, Array.getElem?_eq_getElem (by omega)] at h0 h9); simp at h0 h9; rw [h0] at h9
                      cases h9) u w t w' (mark w t i) hu2 hb9 (fun b hb => if_pos hb)
                exact this
              · have hb9 : Below w.heap.size w w' := by
                  unfold relAt at hbw; rw [beq_false_of_ne hix] at hbw; exact hbw
                (exact hst' j u w t w' (mark w t i) hu2 hb9 (fun b hb => if_pos hb))
            cases hd' : o.dst with
            | none => exact hu1
            | some d' =>
              (have hne : d' ≠ d := fun e => hji (tidy_spec ht ho hj (by rw [hd', e]) hd))
              simp [Act.put, Array.getElem?_setIfInBounds_ne hne, hu1])
      unfold wpOp; simp only [ho]
      split
      · rename_i hw1
        rw [if_pos hw1] at hstep; exact Or.inl hstep
      · rename_i hw1
        rw [if_neg hw1] at hstep; exact hstep
  (refine wp_region_any hm (main _ _ _ _ (fun _ => 1000) (by simp) ?_ (by simp [hm1]) ⟨?_, ⟨rfl, rfl, fun _ _ => rfl⟩, ?_, ?_, ?_⟩))
  · have : unl (Array.replicate ops.size false).toList ≤ (Array.replicate ops.size false).toList.length := List.countP_le_length
    simpa using this
  · have : (Array.replicate ops.size false).getD x false = false := by
      rw [Array.getD_eq_getD_getElem?]
      rcases Nat.lt_or_ge x ops.size with h1 | h1
      · simp [h1]
      · simp [Nat.not_lt.2 h1]
    rw [this]; (exact hB1 _ W _ hB0 ⟨rfl, rfl, rfl, Nat.le_refl _, fun _ _ => rfl⟩)
  · intro i o d _ h _ _
    rw [Array.getD_eq_getD_getElem?] at h
    rcases Nat.lt_or_ge i ops.size with h1 | h1
    · simp [h1] at h
    · simp [Nat.not_lt.2 h1] at h
  · intro o d ho hd
    have := List.all_eq_true.1 hf o ho; rw [hd] at this; rw [hN]; simpa using this
  · intro i o _ h
    rw [Array.getD_eq_getD_getElem?] at h
    rcases Nat.lt_or_ge i ops.size with h1 | h1
    · simp [h1] at h
    · simp [Nat.not_lt.2 h1] at h
end
end Go.Proofs.Ytlmjnglcdgkomac
