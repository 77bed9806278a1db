/- Texts of one proof, one behind the other: Free6, Free7, CW5, CW6, CS1, CS2. -/
import Derived.Test.YtalnljnincnbdacGreatB02
import Derived.Test.YtalnljnincnbdacGreatB12
import Derived.Test.YtalnljnincnbdacGreatB05
import Derived.Test.YtalnljnincnbdacGreatB11
/- The law of Free3 for a region whose last operation writes a slot that others read. -/
namespace Go.Proofs.YtalnljnincnbdacGreat
open Go.RowKit
section
variable {P : Program} {ops oo : Array Oper} {Q : Exit → Act → World → Prop} {a0 : Act} {W : World}
structure Way6 (ops oo : Array Oper) (phi : List Fact) (a0 : Act) (BB : Bool → World → Prop) (ds : List Nat) (x : Nat) (listed : Array Bool) (a : Act) (w : World) (t : Nat → Nat) : Prop where
  below : BB (listed.getD x false) w
  old : OldSlots oo a0 a
  got : ∀ i o d, ops[i]? = some o → listed.getD i false = true → (ds.contains i = true → listed.getD x false = false) → o.dst = some d → ∃ v, a.tmps[d]? = some v ∧ factAt phi i v w t
  fits : ∀ o d, o ∈ ops.toList → o.dst = some d → d < a0.tmps.size
  closed : ∀ i o, ops[i]? = some o → listed.getD i false = true → ∀ j, waits .any o j = true → listed.getD j false = true
theorem Way6.late {phi : List Fact} {BB : Bool → World → Prop} {ds : List Nat} {x : Nat} {ls : List Nat} {listed : Array Bool} {a : Act} {w : World} {t : Nat → Nat} (h : Way6 ops oo phi a0 BB ds x listed a w t) (hsz : listed.size = ops.size) (hl : lateOk ops x ls = true) : ∀ (n i : Nat), i < n → listed.getD i false = true → ls.contains i = true → listed.getD x false = true
  | 0, i, h0, _, _ => by omega
  | n + 1, i, h0, h1, h2 => by
    have hlt : i < ops.size := by
      rw [Array.getD_eq_getD_getElem?] at h1
      rcases Nat.lt_or_ge i ops.size with h3 | h3
      · exact h3
      · rw [Array.getElem?_eq_none (by omega)] at h1; cases h1
    have ho : ops[i]? = some ops[i] := Array.getElem?_eq_getElem hlt; unfold lateOk at hl; (have h3 := List.all_eq_true.1 hl i (by simpa using h2)); simp only [ho] at h3; rw [Bool.or_eq_true] at h3
    rcases h3 with h3 | h3
    · exact h.closed i _ ho h1 x h3
    · rw [List.any_eq_true] at h3
      obtain ⟨j, hj, h4⟩ := h3; rw [Bool.and_eq_true] at h4; (exact Way6.late h hsz (by unfold lateOk; exact hl) n j (by have := List.mem_range.1 hj; omega) (h.closed i _ ho h1 j h4.1) h4.2)

/-- What is to be shown of one operation. -/
def StepOk6 (P : Program) (ops oo : Array Oper) (Q : Exit → Act → World → Prop) (phi : List Fact) (a0 : Act) (BB : Bool → World → Prop) (ds : List Nat) (x : Nat) (Rw : Rel3) (i : Nat) (o : Oper) : Prop :=
  ∀ a w t s, BB s w → (earlyAt ops x i = true → s = false) → OldSlots oo a0 a →
    (∀ j, (waits .any o j && (earlyAt ops x i || !ds.contains j)) = true → ∀ o' d, ops[j]? = some o' → o'.dst = some d → ∃ v, a.tmps[d]? = some v ∧ factAt phi j v w t) →
    ∀ K : Act → World → Prop, Hid (∀ v w', factAt phi i v w' (mark w t i) → relAt x Rw i w t w' → K (a.put o.dst v) w') → if Region.wanted o (yielded ops a.tmps) = true then Oper.wp P o a w K Q else K (a.put o.dst undef) w
def StepsOk6 (P : Program) (ops oo : Array Oper) (Q : Exit → Act → World → Prop) (phi : List Fact) (a0 : Act) (BB : Bool → World → Prop) (ds : List Nat) (x : Nat) (Rw : Rel3) : Nat → List Oper → Prop
  | _, [] => True
  | i, o :: os => StepOk6 P ops oo Q phi a0 BB ds x Rw i o ∧ StepsOk6 P ops oo Q phi a0 BB ds x Rw (i + 1) os
theorem StepsOk6.get {phi : List Fact} {BB : Bool → World → Prop} {ds : List Nat} {x : Nat} {Rw : Rel3} : ∀ {i : Nat} {os : List Oper}, StepsOk6 P ops oo Q phi a0 BB ds x Rw i os → ∀ (j : Nat) (o : Oper), os[j]? = some o → StepOk6 P ops oo Q phi a0 BB ds x Rw (i + j) o
  | _, [], _, j, o, h => by simp at h
  | i, y :: os, hs, j, o, h => by
    cases j with
    | zero => simp at h; subst h; exact hs.1
    | succ j =>
      (have := StepsOk6.get hs.2 j o (by simpa using h))
      rwa [show i + 1 + j = i + (j + 1) by omega] at this

/-- **The region**: operation x may write, by Rw, what no other that is still waited for speaks of; the last waits for all. -/
theorem wp_region_six {id : Nat} (hm : P.follows .mixedOrders = true) (phi : List Fact) (hst : ∀ p ∈ phi, Stays3 p) (ht : tidyOps ops = true) (hb : backOps ops = true) (N : Nat) (hN : a0.tmps.size = N) (hf : ops.toList.all (fun o => match o.dst with | some d => decide (d < N) | none => true) = true)
    (m : Nat) (ol : Oper) (hm1 : ops.size = m + 1) (hol : ops[m]? = some ol) (hw : (List.range m).all (fun j => waits .any ol j || (List.range m).any fun i => waits .any ol i && match ops[i]? with | some o => waits .any o j | none => false) = true)
    (ds : List Nat) (x : Nat) (hxm : x < m) (Rw : Rel3) (BB : Bool → World → Prop) (hB0 : BB false W) (hB1 : ∀ s w w', BB s w → Below w.heap.size w w' → BB s w') (hB2 : ∀ w t w', BB false w → Rw w t w' → BB true w') (ls : List Nat) (hlate : lateOk ops x ls = true) (hls : LiveStay x ds ls Rw 0 phi)
    (hs : StepsOk6 P ops ⟨ops.toList.take m⟩ Q phi a0 BB ds x Rw 0 (ops.toList.take m))
    (he : ∀ a w t, BB true w → OldSlots ⟨ops.toList.take m⟩ a0 a → (∀ i o d, i < m → ds.contains i = false → ops[i]? = some o → o.dst = some d → ∃ v, a.tmps[d]? = some v ∧ factAt phi i v w t) → ∀ K : Act → World → Prop, Hid (∀ a' w', Q .normal a' w' → K a' w') → if Region.wanted ol (yielded ops a.tmps) = true then Oper.wp P ol a w K Q else K (a.put ol.dst undef) w) : (Code.region id ops true).wp P Q a0 W := by
  have hst' : ∀ i, Stays3 (factAt phi i) := fun i => by
    unfold factAt; rw [List.getD_eq_getElem?_getD]
    rcases Nat.lt_or_ge i phi.length with h | h
    · rw [List.getElem?_eq_getElem h]
      exact hst _ (List.getElem_mem h)
    · rw [List.getElem?_eq_none h]
      (exact fun _ _ _ _ _ _ _ _ => trivial)
  have done : ∀ (fuel : Nat) (listed : Array Bool) (a : Act) (w : World), Region.ready .any ops listed = [] → Q .normal a w → wpAny P .any ops Q fuel listed a w := fun fuel listed a w hr hq => by
    cases fuel with
    | zero => exact ⟨hr, hq⟩
    | succ fuel => exact ⟨fun _ => hq, fun i hi => by rw [hr] at hi; cases hi⟩
  have main : ∀ (fuel : Nat) (listed : Array Bool) (a : Act) (w : World) (t : Nat → Nat), listed.size = ops.size → unl listed.toList ≤ fuel → listed.getD m true = false → Way6 ops ⟨ops.toList.take m⟩ phi a0 BB ds x listed a w t → wpAny P .any ops Q fuel listed a w := by
    have hend : ∀ (listed : Array Bool) (a : Act) (w : World), listed.size = ops.size → listed.getD m true = false → Region.ready .any ops listed = [] → Q .normal a w := fun listed a w hsz hm0 hr => by
      (have := all_listed hb hsz hr (m + 1) m (Nat.lt_succ_self _) (by omega)); (rw [Array.getD_eq_getD_getElem?, Array.getElem?_eq_getElem (by omega)] at this hm0); simp at this hm0; rw [hm0] at this
      cases this
    intro fuel
    induction fuel with
    | zero =>
      intro listed a w t hsz hu hmf hw
      have hr : Region.ready .any ops listed = [] := by
        rw [List.eq_nil_iff_forall_not_mem]; intro i hi; obtain ⟨h0, o, ho, -⟩ := mem_ready.1 hi; have hlt := (Array.getElem?_eq_some_iff.1 ho).1
        have h1 : listed.toList[i]? = some false := by
          (rw [Array.getElem?_toList, Array.getElem?_eq_getElem (by omega)]); (rw [Array.getD_eq_getD_getElem?, Array.getElem?_eq_getElem (by omega)] at h0); simpa using h0
        have := unl_set _ _ h1; omega
      exact ⟨hr, hend listed a w hsz hmf hr⟩
    | succ fuel ih =>
      intro listed a w t hsz hu hmf hwy; (refine ⟨hend listed a w hsz hmf, fun i hi => ?_⟩); obtain ⟨h0, o, ho, hdep⟩ := mem_ready.1 hi; have hlt := (Array.getElem?_eq_some_iff.1 ho).1
      have h1 : listed.toList[i]? = some false := by
        (rw [Array.getElem?_toList, Array.getElem?_eq_getElem (by omega)]); (rw [Array.getD_eq_getD_getElem?, Array.getElem?_eq_getElem (by omega)] at h0); simpa using h0
      have hu' := unl_set _ _ h1; by_cases him : i = m
      · subst him
        rw [hol] at ho
        cases ho
        have hdir : ∀ j, waits .any ol j = true → listed.getD j false = true := fun j hwj => by
          unfold waits at hwj; rw [List.any_eq_true] at hwj; obtain ⟨e, hk, hk2⟩ := hwj; rw [Bool.and_eq_true, beq_iff_eq] at hk2; have := hdep e (Array.mem_toList_iff.1 hk) hk2.1
          rwa [hk2.2] at this
        have hall : ∀ j, j < i → listed.getD j false = true := fun j hj => by
          have hwj := List.all_eq_true.1 hw j (List.mem_range.2 hj); rw [Bool.or_eq_true] at hwj
          rcases hwj with h1 | h1
          · exact hdir j h1
          · obtain ⟨q, -, hq⟩ := List.any_eq_true.1 h1
            rw [Bool.and_eq_true] at hq
            cases ho' : ops[q]? with
            | none => rw [ho'] at hq; cases hq.2
            | some o' =>
              rw [ho'] at hq; exact hwy.closed q o' ho' (hdir q hq.1) j hq.2
        have hnone : Region.ready .any ops (listed.setIfInBounds i true) = [] := by
          rw [List.eq_nil_iff_forall_not_mem]; intro j hj; obtain ⟨g0, o', ho', -⟩ := mem_ready.1 hj; have hjl := (Array.getElem?_eq_some_iff.1 ho').1; by_cases hji : i = j
          · subst hji
            simp [hsz, hlt] at g0
          · rw [getD_set_ne true hji] at g0
            (have := hall j (by omega)); (rw [Array.getD_eq_getD_getElem?, Array.getElem?_eq_getElem (by omega)] at this g0); simp at this g0; rw [g0] at this
            cases this
        (have hstep := he a w t (by have := hwy.below; rwa [hall x hxm] at this) hwy.old (fun j o' d hj hdj hoj hd => hwy.got j o' d hoj (hall j hj) (fun e => by rw [hdj] at e; cases e) hd) (wpAny P .any ops Q fuel (listed.setIfInBounds i true)) (fun a' w' hq => done _ _ _ _ hnone hq)); unfold wpOp; simp only [hol]
        split
        · rename_i hw1
          rw [if_pos hw1] at hstep; exact Or.inl hstep
        · rename_i hw1
          rw [if_neg hw1] at hstep; exact hstep
      have hok : StepOk6 P ops ⟨ops.toList.take m⟩ Q phi a0 BB ds x Rw i o := by
        (have := hs.get i o (by rw [List.getElem?_take_of_lt (by omega), Array.getElem?_toList]; exact ho))
        rwa [Nat.zero_add] at this
      have hearly : earlyAt ops x i = true → listed.getD x false = false := fun e => by
        unfold earlyAt at e; rw [Bool.or_eq_true] at e
        rcases e with e | e
        · have e : i = x := by simpa using e
          rw [← e]; (rw [Array.getD_eq_getD_getElem?, Array.getElem?_eq_getElem (by omega)] at h0 ⊢); simpa using h0
        · cases hlx : listed.getD x false with
          | false => rfl
          | true =>
            cases hox : ops[x]? with
            | none => rw [hox] at e; cases e
            | some ox =>
              rw [hox] at e; have := hwy.closed x ox hox hlx i e; (rw [Array.getD_eq_getD_getElem?, Array.getElem?_eq_getElem (by omega)] at h0 this); simp at h0 this; rw [h0] at this
              cases this
      have hstep := hok a w t _ hwy.below hearly hwy.old (fun j hj o' d hj' hd => hwy.got j o' d hj' (by
        rw [Bool.and_eq_true] at hj; have hj := hj.1; unfold waits at hj; rw [List.any_eq_true] at hj; obtain ⟨e, hk, hk2⟩ := hj; rw [Bool.and_eq_true, beq_iff_eq] at hk2; have := hdep e (Array.mem_toList_iff.1 hk) hk2.1
        rwa [hk2.2] at this) (fun e => by
          rw [Bool.and_eq_true, e, Bool.not_true, Bool.or_false] at hj
          exact hearly hj.2) hd) (wpAny P .any ops Q fuel (listed.setIfInBounds i true)) (fun v w' hp hbw => by
        (refine ih _ _ _ (mark w t i) (by simpa using hsz) (by rw [Array.toList_setIfInBounds]; omega) (by rw [getD_set_ne true him]; exact hmf) ?_)
        have hbel : BB ((listed.setIfInBounds i true).getD x false) w' := by
          unfold relAt at hbw
          cases hix : i == x
          · rw [hix] at hbw
            (rw [getD_set_ne false (by simpa using hix)]); exact hB1 _ w w' hwy.below hbw
          · rw [hix] at hbw
            (have e : i = x := by simpa using hix)
            have h8 : listed.getD x false = false := by
              rw [← e]; (rw [Array.getD_eq_getD_getElem?, Array.getElem?_eq_getElem (by omega)] at h0 ⊢); simpa using h0
            have h9 : (listed.setIfInBounds i true).getD x false = true := by
              rw [← e]; simp [hsz, hlt]
            rw [h9]; have := hwy.below; rw [h8] at this; exact hB2 w t w' this hbw
        refine ⟨hbel, ?_, ?_, hwy.fits, ?_⟩
        case refine_3 =>
          intro j o' hj hlj k hk; by_cases hki : i = k
          · rw [← hki]
            simp [hsz, hlt]
          · rw [getD_set_ne false hki]
            by_cases hji : i = j
            · rw [← hji, ho] at hj
              cases hj
              unfold waits at hk; rw [List.any_eq_true] at hk; obtain ⟨e, hk1, hk2⟩ := hk; rw [Bool.and_eq_true, beq_iff_eq] at hk2; have := hdep e (Array.mem_toList_iff.1 hk1) hk2.1
              rwa [hk2.2] at this
            · rw [getD_set_ne false hji] at hlj
              exact hwy.closed j o' hj hlj k hk
        · obtain ⟨o1, o2, o3⟩ := hwy.old
          (refine ⟨?_, ?_, fun s ht' => ?_⟩)
          · cases hd : o.dst <;> simp [Act.put, o1]
          · cases hd : o.dst <;> simp [Act.put, o2]
          · rw [← o3 s ht']
            cases hd : o.dst with
            | none => rfl
            | some d =>
              have hne : d ≠ s := fun e => by
                (have := List.all_eq_true.1 ht' o ((List.mem_of_getElem? (i := i) (by rw [List.getElem?_take_of_lt (by omega), Array.getElem?_toList]; exact ho)))); rw [hd, e] at this; simp at this
              simp [Act.put, Array.getElem?_setIfInBounds_ne hne]
        · intro j o' d hj hlj hdj hd
          by_cases hji : i = j
          · subst hji
            rw [ho] at hj
            cases hj
            have hdl : d < a.tmps.size := by rw [hwy.old.1]; exact hwy.fits o d (by
              rw [Array.mem_toList_iff]; exact Array.mem_of_getElem? ho) hd
            (exact ⟨v, by rw [hd]; simp [Act.put, hdl], hp⟩)
          · rw [getD_set_ne false hji] at hlj
            have hold : ds.contains j = true → listed.getD x false = false := fun e => by
              by_cases hix : i = x
              · rw [← hix]
                (rw [Array.getD_eq_getD_getElem?, Array.getElem?_eq_getElem (by omega)] at h0 ⊢); simpa using h0
              · have := hdj e
                rwa [getD_set_ne false hix] at this
            obtain ⟨u, hu1, hu2⟩ := hwy.got j o' d hj hlj hold hd; refine ⟨u, ?_, ?_⟩
            case refine_2 =>
              by_cases hix : i = x
              · have hb9 : Rw w t w' := by
                  unfold relAt at hbw; rw [hix, beq_self_eq_true] at hbw; exact hbw
                have hdd : ds.contains j = false := by
                  cases hd9 : ds.contains j with
                  | false => rfl
                  | true =>
                    have := hdj hd9; rw [← hix] at this; simp [hsz, hlt] at this
                have := hls.get j (by rw [Nat.zero_add, ← hix]; exact fun e => hji e.symm) (by rw [Nat.zero_add]; exact hdd) (by
                    rw [Nat.zero_add]
                    cases hlc : ls.contains j with
                    | false => rfl
                    | true =>
                      have h9 := hwy.late hsz hlate (j + 1) j (Nat.lt_succ_self _) hlj hlc; rw [← hix] at h9; (rw [Array.getD_eq_getD_getElem?, Array.getElem?_eq_getElem (by omega)] at h0 h9); simp at h0 h9; rw [h0] at h9
                      cases h9) u w t w' (mark w t i) hu2 hb9 (fun b hb => if_pos hb)
                exact this
              · have hb9 : Below w.heap.size w w' := by
                  unfold relAt at hbw; rw [beq_false_of_ne hix] at hbw; exact hbw
                (exact hst' j u w t w' (mark w t i) hu2 hb9 (fun b hb => if_pos hb))
            cases hd' : o.dst with
            | none => exact hu1
            | some d' =>
              (have hne : d' ≠ d := fun e => hji (tidy_spec ht ho hj (by rw [hd', e]) hd))
              simp [Act.put, Array.getElem?_setIfInBounds_ne hne, hu1])
      unfold wpOp; simp only [ho]
      split
      · rename_i hw1
        rw [if_pos hw1] at hstep; exact Or.inl hstep
      · rename_i hw1
        rw [if_neg hw1] at hstep; exact hstep
  (refine wp_region_any hm (main _ _ _ _ (fun _ => 1000) (by simp) ?_ (by simp [hm1]) ⟨?_, ⟨rfl, rfl, fun _ _ => rfl⟩, ?_, ?_, ?_⟩))
  · have : unl (Array.replicate ops.size false).toList ≤ (Array.replicate ops.size false).toList.length := List.countP_le_length
    simpa using this
  · have : (Array.replicate ops.size false).getD x false = false := by
      rw [Array.getD_eq_getD_getElem?]
      rcases Nat.lt_or_ge x ops.size with h1 | h1
      · simp [h1]
      · simp [Nat.not_lt.2 h1]
    rw [this]; (exact hB1 _ W _ hB0 ⟨rfl, rfl, rfl, Nat.le_refl _, fun _ _ => rfl⟩)
  · intro i o d _ h _ _
    rw [Array.getD_eq_getD_getElem?] at h
    rcases Nat.lt_or_ge i ops.size with h1 | h1
    · simp [h1] at h
    · simp [Nat.not_lt.2 h1] at h
  · intro o d ho hd
    have := List.all_eq_true.1 hf o ho; rw [hd] at this; rw [hN]; simpa using this
  · intro i o _ h
    rw [Array.getD_eq_getD_getElem?] at h
    rcases Nat.lt_or_ge i ops.size with h1 | h1
    · simp [h1] at h
    · simp [Nat.not_lt.2 h1] at h
end
end Go.Proofs.YtalnljnincnbdacGreat
/- A region that draws its order, whatever its operations write: what is known is told by a state of one's own that each operation moves on. -/
namespace Go.Proofs.YtalnljnincnbdacGreat
open Go.RowKit

/-- Operation i is done, too. -/
def upd (L : Nat → Bool) (i : Nat) : Nat → Bool := fun j => j == i || L j
/-- While operation i is not done, no one has written slot d. -/
def freeSlot (ops : Array Oper) (i d : Nat) : Bool := (List.range ops.size).all fun k => match ops[k]? with | some o => o.dst != some d || k == i || waits .any o i | none => true
theorem not_yet {a b : Bool} (h : a = false) (hi : b = true → a = true) : b = false := by
  cases b
  · rfl
  · rw [hi rfl] at h; cases h
section
variable {P : Program} {ops : Array Oper} {Q : Exit → Act → World → Prop} {a0 : Act} {W : World} {G : Type}
/-- Facts, by the state. -/
abbrev FactG (G : Type) := G → Value → World → Prop
def factG (phi : List (FactG G)) (i : Nat) : FactG G := phi.getD i fun _ _ _ => True
structure WayG (ops : Array Oper) (phi : List (FactG G)) (live : (Nat → Bool) → Nat → Bool) (St : (Nat → Bool) → G → World → Prop) (a0 : Act) (L : Nat → Bool) (g : G) (a : Act) (w : World) : Prop where
  st : St L g w
  size : a.tmps.size = a0.tmps.size
  defers : a.defers = a0.defers
  old : ∀ d, (∀ k o, ops[k]? = some o → L k = true → o.dst ≠ some d) → a.tmps[d]? = a0.tmps[d]?
  got : ∀ i o d, ops[i]? = some o → L i = true → o.dst = some d → ∃ v, a.tmps[d]? = some v ∧ (live L i = true → factG phi i g v w)
  fits : ∀ o d, o ∈ ops.toList → o.dst = some d → d < a0.tmps.size
  closed : ∀ i o, ops[i]? = some o → L i = true → ∀ j, waits .any o j = true → L j = true
/-- What is to be shown of one operation. -/
def StepG (P : Program) (ops : Array Oper) (Q : Exit → Act → World → Prop) (phi : List (FactG G)) (live : (Nat → Bool) → Nat → Bool) (St : (Nat → Bool) → G → World → Prop) (a0 : Act) (i : Nat) (o : Oper) : Prop :=
  ∀ (L : Nat → Bool) (g : G) a w, St L g w → L i = false → (∀ j, waits .any o j = true → L j = true) → (∀ k o', ops[k]? = some o' → L k = true → ∀ j, waits .any o' j = true → L j = true) → (∀ d, freeSlot ops i d = true → a.tmps[d]? = a0.tmps[d]?) →
    (∀ j, waits .any o j = true → ∀ o' d, ops[j]? = some o' → o'.dst = some d → ∃ v, a.tmps[d]? = some v ∧ (live L j = true → factG phi j g v w)) →
    ∀ K : Act → World → Prop, Hid (∀ v w' g', St (upd L i) g' w' → factG phi i g' v w' → (∀ j, L j = true → live (upd L i) j = true → live L j = true ∧ ∀ u, factG phi j g u w → factG phi j g' u w') → K (a.put o.dst v) w') → if Region.wanted o (yielded ops a.tmps) = true then Oper.wp P o a w K Q else K (a.put o.dst undef) w
def StepsG (P : Program) (ops : Array Oper) (Q : Exit → Act → World → Prop) (phi : List (FactG G)) (live : (Nat → Bool) → Nat → Bool) (St : (Nat → Bool) → G → World → Prop) (a0 : Act) : Nat → List Oper → Prop
  | _, [] => True
  | i, o :: os => StepG P ops Q phi live St a0 i o ∧ StepsG P ops Q phi live St a0 (i + 1) os
theorem StepsG.get {phi : List (FactG G)} {live : (Nat → Bool) → Nat → Bool} {St : (Nat → Bool) → G → World → Prop} : ∀ {i : Nat} {os : List Oper}, StepsG P ops Q phi live St a0 i os → ∀ (j : Nat) (o : Oper), os[j]? = some o → StepG P ops Q phi live St a0 (i + j) o
  | _, [], _, j, o, h => by simp at h
  | i, y :: os, hs, j, o, h => by
    cases j with
    | zero => simp at h; subst h; exact hs.1
    | succ j =>
      (have := StepsG.get hs.2 j o (by simpa using h))
      rwa [show i + 1 + j = i + (j + 1) by omega] at this
/-- **The region, whatever the order and whatever is written.** -/
theorem wp_region_gh {id : Nat} (hm : P.follows .mixedOrders = true) (ht : tidyOps ops = true) (hb : backOps ops = true) (N : Nat) (hN : a0.tmps.size = N) (hf : ops.toList.all (fun o => match o.dst with | some d => decide (d < N) | none => true) = true)
    (phi : List (FactG G)) (live : (Nat → Bool) → Nat → Bool) (St : (Nat → Bool) → G → World → Prop) (g0 : G) (h0 : ∀ w, Below W.heap.size W w → Below w.heap.size w W → St (fun _ => false) g0 w)
    (hs : StepsG P ops Q phi live St a0 0 ops.toList)
    (he : ∀ (L : Nat → Bool) (g : G) a w, (∀ i, i < ops.size → L i = true) → St L g w → a.tmps.size = a0.tmps.size → a.defers = a0.defers → (∀ d, (ops.toList.all fun o => o.dst != some d) = true → a.tmps[d]? = a0.tmps[d]?) → (∀ i o d, ops[i]? = some o → o.dst = some d → ∃ v, a.tmps[d]? = some v ∧ (live L i = true → factG phi i g v w)) → Q .normal a w) : (Code.region id ops true).wp P Q a0 W := by
  have main : ∀ (fuel : Nat) (listed : Array Bool) (a : Act) (w : World) (L : Nat → Bool) (g : G), listed.size = ops.size → (∀ i, i < ops.size → listed.getD i false = L i) → unl listed.toList ≤ fuel → WayG ops phi live St a0 L g a w → wpAny P .any ops Q fuel listed a w := by
    have hend : ∀ (listed : Array Bool) (a : Act) (w : World) (L : Nat → Bool) (g : G), listed.size = ops.size → (∀ i, i < ops.size → listed.getD i false = L i) → WayG ops phi live St a0 L g a w → Region.ready .any ops listed = [] → Q .normal a w := fun listed a w L g hsz hL hw hr => by
      have hall : ∀ i, i < ops.size → L i = true := fun i hi => by
        rw [← hL i hi]; exact all_listed hb hsz hr (i + 1) i (Nat.lt_succ_self _) hi
      (refine he L g a w hall hw.st hw.size hw.defers (fun d hd => hw.old d fun k o hk _ => ?_) fun i o d hi hd => hw.got i o d hi (hall i (Array.getElem?_eq_some_iff.1 hi).1) hd); have := List.all_eq_true.1 hd o (Array.mem_toList_iff.2 (Array.mem_of_getElem? hk)); simpa using this
    intro fuel
    induction fuel with
    | zero =>
      intro listed a w L g hsz hL hu hw
      have hr : Region.ready .any ops listed = [] := by
        rw [List.eq_nil_iff_forall_not_mem]; intro i hi; obtain ⟨h0, o, ho, -⟩ := mem_ready.1 hi; have hlt := (Array.getElem?_eq_some_iff.1 ho).1
        have h1 : listed.toList[i]? = some false := by
          (rw [Array.getElem?_toList, Array.getElem?_eq_getElem (by omega)]); (rw [Array.getD_eq_getD_getElem?, Array.getElem?_eq_getElem (by omega)] at h0); simpa using h0
        have := unl_set _ _ h1; omega
      exact ⟨hr, hend listed a w L g hsz hL hw hr⟩
    | succ fuel ih =>
      intro listed a w L g hsz hL hu hwy; (refine ⟨hend listed a w L g hsz hL hwy, fun i hi => ?_⟩); obtain ⟨h0, o, ho, hdep⟩ := mem_ready.1 hi; have hlt := (Array.getElem?_eq_some_iff.1 ho).1
      have h1 : listed.toList[i]? = some false := by
        (rw [Array.getElem?_toList, Array.getElem?_eq_getElem (by omega)]); (rw [Array.getD_eq_getD_getElem?, Array.getElem?_eq_getElem (by omega)] at h0); simpa using h0
      have hu' := unl_set _ _ h1
      have hLi : L i = false := by
        rw [← hL i hlt]; (rw [Array.getD_eq_getD_getElem?, Array.getElem?_eq_getElem (by omega)] at h0 ⊢); simpa using h0
      have hdl : ∀ j, waits .any o j = true → L j = true := fun j hwj => by
        unfold waits at hwj; rw [List.any_eq_true] at hwj; obtain ⟨e, hk, hk2⟩ := hwj; rw [Bool.and_eq_true, beq_iff_eq] at hk2; have h9 := hdep e (Array.mem_toList_iff.1 hk) hk2.1; rw [hk2.2] at h9
        have hjl : j < ops.size := by
          rcases Nat.lt_or_ge j ops.size with h3 | h3
          · exact h3
          · rw [Array.getD_eq_getD_getElem?, Array.getElem?_eq_none (by omega)] at h9; cases h9
        rw [← hL j hjl]; exact h9
      have hnk : ∀ k o', ops[k]? = some o' → waits .any o' i = true → L k = false := fun k o' hk hwk => by
        cases hLk : L k with
        | false => rfl
        | true =>
          have := hwy.closed k o' hk hLk i hwk; rw [hLi] at this
          cases this
      have hok : StepG P ops Q phi live St a0 i o := by
        (have := hs.get i o (by rw [Array.getElem?_toList]; exact ho))
        rwa [Nat.zero_add] at this
      have hstep := hok L g a w hwy.st hLi hdl hwy.closed (fun d hd => hwy.old d fun k o' hk hLk e => by
          unfold freeSlot at hd; have := List.all_eq_true.1 hd k (List.mem_range.2 (Array.getElem?_eq_some_iff.1 hk).1); rw [hk] at this; simp only [e] at this; rw [Bool.or_eq_true, Bool.or_eq_true] at this
          rcases this with (h | h) | h
          · simp at h
          · have : k = i := by simpa using h
            rw [this, hLi] at hLk
            cases hLk
          · rw [hnk k o' hk h] at hLk
            cases hLk) (fun j hj o' d hj' hd => hwy.got j o' d hj' (hdl j hj) hd) (wpAny P .any ops Q fuel (listed.setIfInBounds i true)) (fun v w' g' hst' hp hfr => by
        (refine ih _ _ _ (upd L i) g' (by simpa using hsz) (fun j hj => ?_) (by rw [Array.toList_setIfInBounds]; omega) ⟨hst', ?_, ?_, fun d hd => ?_, fun j o' d hj hlj hd => ?_, hwy.fits, fun j o' hj hlj k hk => ?_⟩)
        · unfold upd
          by_cases hij : j = i
          · subst hij
            simp [hsz, hlt]
          · rw [getD_set_ne false (fun e => hij e.symm), hL j hj]
            simp [hij]
        · cases hd : o.dst <;> simp [Act.put, hwy.size]
        · cases hd : o.dst <;> simp [Act.put, hwy.defers]
        · have hne : o.dst ≠ some d := hd i o ho (by simp [upd])
          (rw [← hwy.old d fun k o' hk hLk => hd k o' hk (by simp [upd, hLk])])
          cases hd' : o.dst with
          | none => rfl
          | some d' =>
            rw [hd'] at hne; (have hne : d' ≠ d := fun e => hne (by rw [e])); simp [Act.put, Array.getElem?_setIfInBounds_ne hne]
        · by_cases hji : j = i
          · subst hji
            rw [ho] at hj
            cases hj
            have hdl2 : d < a.tmps.size := by rw [hwy.size]; exact hwy.fits o d (by
              rw [Array.mem_toList_iff]; exact Array.mem_of_getElem? ho) hd
            (exact ⟨v, by rw [hd]; simp [Act.put, hdl2], fun _ => hp⟩)
          · have hLj : L j = true := by simpa [upd, hji] using hlj
            obtain ⟨u, hu1, hu2⟩ := hwy.got j o' d hj hLj hd; (refine ⟨u, ?_, fun hl => (hfr j hLj hl).2 u (hu2 (hfr j hLj hl).1)⟩)
            cases hd' : o.dst with
            | none => exact hu1
            | some d' =>
              (have hne : d' ≠ d := fun e => hji (tidy_spec ht hj ho hd (by rw [hd', e]))); simp [Act.put, Array.getElem?_setIfInBounds_ne hne, hu1]
        · by_cases hji : j = i
          · subst hji
            rw [ho] at hj
            cases hj
            simp [upd, hdl k hk]
          · have hLj : L j = true := by simpa [upd, hji] using hlj
            simp [upd, hwy.closed j o' hj hLj k hk])
      unfold wpOp; simp only [ho]
      split
      · rename_i hw1
        rw [if_pos hw1] at hstep; exact Or.inl hstep
      · rename_i hw1
        rw [if_neg hw1] at hstep; exact hstep
  (refine wp_region_any hm (main _ _ _ _ (fun _ => false) g0 (by simp) (fun i hi => by rw [Array.getD_eq_getD_getElem?]; simp [hi]) ?_ ⟨h0 _ ⟨rfl, rfl, rfl, Nat.le_refl _, fun _ _ => rfl⟩ ⟨rfl, rfl, rfl, Nat.le_refl _, fun _ _ => rfl⟩, rfl, rfl, fun _ _ => rfl, fun i o d _ h _ => (by cases h), ?_, fun i o _ h => (by cases h)⟩))
  · have : unl (Array.replicate ops.size false).toList ≤ (Array.replicate ops.size false).toList.length := List.countP_le_length
    simpa using this
  · intro o d ho hd
    have := List.all_eq_true.1 hf o ho; rw [hd] at this; rw [hN]; simpa using this
end
theorem row_same {l m : List Value} {lo n : Nat} (h : ∀ t, lo ≤ t → t < lo + n → l[t]? = m[t]?) : (l.drop lo).take n = (m.drop lo).take n := by
  apply List.ext_getElem?; intro t
  rcases Nat.lt_or_ge t n with ht | ht
  · rw [List.getElem?_take_of_lt ht, List.getElem?_take_of_lt ht, List.getElem?_drop, List.getElem?_drop]
    (exact h _ (by omega) (by omega))
  · rw [List.getElem?_eq_none (by rw [List.length_take]; omega), List.getElem?_eq_none (by rw [List.length_take]; omega)]
/-- A frame behind a drawn region whose slots lie in two rows. -/
theorem frame_two {ops : Array Oper} {tm : Array Value} {df : List Deferred} {a0 : Act} (lo n mid n2 a1 a2 a3 : Nat) (e1 : lo + n = a1) (e2 : a1 + mid = a2) (e3 : a2 + n2 = a3) (hin : (ops.toList.all fun o => match o.dst with | some d => decide ((lo ≤ d ∧ a1 > d) ∨ (a2 ≤ d ∧ a3 > d)) | none => true) = true) (hlen : a3 ≤ a0.tmps.size) (h : OldSlots ops a0 ⟨tm, df⟩) : ∃ ys zs : List Value, ys.length = n ∧ zs.length = n2 ∧ tm = ⟨a0.tmps.toList.take lo ++ (ys ++ ((a0.tmps.toList.drop a1).take mid ++ (zs ++ a0.tmps.toList.drop a3)))⟩ ∧ df = a0.defers := by
  obtain ⟨h1, h2, h3⟩ := h; have h1' : tm.toList.length = a0.tmps.toList.length := h1; have hl : a3 ≤ a0.tmps.toList.length := hlen
  have old : ∀ t, (t < lo ∨ (a1 ≤ t ∧ t < a2) ∨ a3 ≤ t) → tm.toList[t]? = a0.tmps.toList[t]? := fun t ht => by
    have := h3 t (by
      rw [List.all_eq_true] at hin ⊢; intro o ho; have := hin o ho
      cases hd : o.dst with
      | none => rfl
      | some d =>
        rw [hd] at this; have := of_decide_eq_true this; (refine bne_iff_ne.2 fun e => ?_); have e2 : d = t := Option.some.inj e; subst e2
        omega)
    simpa using this
  (refine ⟨(tm.toList.drop lo).take n, (tm.toList.drop a2).take n2, by rw [List.length_take, List.length_drop]; omega, by rw [List.length_take, List.length_drop]; omega, ?_, h2⟩); apply Array.ext'
  have p1 : tm.toList.take lo = a0.tmps.toList.take lo := by
    (have := row_same (l := tm.toList) (m := a0.tmps.toList) (lo := 0) (n := lo) fun t _ ht => old t (by omega)); simpa using this
  (have p2 : (tm.toList.drop a1).take mid = (a0.tmps.toList.drop a1).take mid := row_same fun t h5 h6 => old t (by omega))
  have p3 : tm.toList.drop a3 = a0.tmps.toList.drop a3 := by
    (have := row_same (l := tm.toList) (m := a0.tmps.toList) (lo := a3) (n := tm.toList.length) fun t h5 _ => old t (by omega))
    rwa [List.take_of_length_le (by rw [List.length_drop]; omega), List.take_of_length_le (by rw [List.length_drop]; omega)] at this
  show tm.toList = _; rw [← p1, ← p2, ← p3]
  conv => lhs; rw [← List.take_append_drop lo tm.toList]
  congr 1
  conv => lhs; rw [← List.take_append_drop n (tm.toList.drop lo)]
  congr 1
  rw [List.drop_drop, e1]
  conv => lhs; rw [← List.take_append_drop mid (tm.toList.drop a1)]
  congr 1
  rw [List.drop_drop, e2]
  conv => lhs; rw [← List.take_append_drop n2 (tm.toList.drop a2)]
  congr 1
  rw [List.drop_drop, e3]
end Go.Proofs.YtalnljnincnbdacGreat
/- Walks: everywhere. -/
namespace Go.Proofs.YtalnljnincnbdacGreat
open Go.RowKit

/-- Not too many at a place, and no formula too broad. -/
inductive GoodP : Pf → Prop
  | mk (a : ByteArray) (f : Fm) (l r : List Fm) (ks : List Pf) (h1 : l.length ≤ 300) (h2 : ∀ g ∈ l, Slim g) (h3 : ks.length ≤ 1200) (h4 : ∀ (i : Nat) (k : Pf), ks[i]? = some k → GoodP k) : GoodP (.mk a f l r ks)
theorem GoodP.parts {a : ByteArray} {f : Fm} {l r : List Fm} {ks : List Pf} (h : GoodP (.mk a f l r ks)) : l.length ≤ 300 ∧ (∀ g ∈ l, Slim g) ∧ ks.length ≤ 1200 ∧ ∀ (i : Nat) (k : Pf), ks[i]? = some k → GoodP k := by
  cases h with | mk _ _ _ _ _ h1 h2 h3 h4 => exact ⟨h1, h2, h3, h4⟩
theorem eval_tmp {a : Act} {n : Nat} {v : Value} (h : a.tmps[n]? = some v) : a.eval (.tmp n) = v := by
  simp [Act.eval, h]

end Go.Proofs.YtalnljnincnbdacGreat
/- Walks: Steps. -/
namespace Go.Proofs.YtalnljnincnbdacGreat
open Go.RowKit

theorem infoInt : ∃ i, Tryz.prog.info? 3 = some i ∧ i.zero = some (.int .i64 0) ∧ i.size = 1 ∧ i.bytes = 8 := by
  (obtain ⟨i, hi, h⟩ := Option.map_eq_some_iff.1 (show (Tryz.prog.info? 3).map (fun i => (i.zero, i.size, i.bytes)) = some (some (.int .i64 0), 1, 8) by kernel_rfl)); simp only [Prod.mk.injEq] at h; exact ⟨i, hi, h.1, h.2.1, h.2.2⟩
/-- A list of n ints being made. -/
def KI (B : Nat) (w : World) (ad : Option Addr) (cap n : Nat) : Prop := ∃ cs, w.ownsRow B 3 1 (.slice ad n cap) n cs ∧ ∀ u ∈ cs, u.oneCell' = true
theorem owns_keep {B : Nat} {w w' : World} {T : TypeId} {sz n : Nat} {v : Value} {cs : List Value} (h : w.ownsRow B T sz v n cs) (hb : ∀ b, v.ownBlock = some b → w'.heap[b]? = w.heap[b]?) : w'.ownsRow B T sz v n cs := by
  obtain ⟨h1, h2⟩ := h; refine ⟨h1, ?_⟩
  rcases h2 with h2 | ⟨g, cap, cur, hv, hg, hh, r⟩
  · exact Or.inl h2
  · exact Or.inr ⟨g, cap, cur, hv, hg, (hb g (by rw [hv]; rfl)).trans hh, r⟩
theorem owns_low {B B' : Nat} {w : World} {T : TypeId} {sz n : Nat} {v : Value} {cs : List Value} (h : w.ownsRow B' T sz v n cs) (hB : B ≤ B') : w.ownsRow B T sz v n cs := by
  obtain ⟨h1, h2⟩ := h; refine ⟨h1, ?_⟩
  rcases h2 with h2 | ⟨g, cap, cur, hv, hg, hh, r⟩
  · exact Or.inl h2
  · exact Or.inr ⟨g, cap, cur, hv, Nat.le_trans hB hg, hh, r⟩
theorem KI.up {B : Nat} {w w' : World} {ad : Option Addr} {cap n : Nat} (h : KI B w ad cap n) (hb : ∀ b, (Value.slice ad n cap).ownBlock = some b → w'.heap[b]? = w.heap[b]?) : KI B w' ad cap n := by
  obtain ⟨cs, ho, h1⟩ := h; exact ⟨cs, owns_keep ho hb, h1⟩
theorem KI.low {B B' : Nat} {w : World} {ad : Option Addr} {cap n : Nat} (h : KI B' w ad cap n) (hB : B ≤ B') : KI B w ad cap n := by
  obtain ⟨cs, ho, h1⟩ := h; exact ⟨cs, owns_low ho hB, h1⟩
theorem KF.low {P : Nat → Prop} {B B' : Nat} {w : World} {ad : Option Addr} {cap : Nat} {ps : List Pf} (h : KF P B' w ad cap ps) (hB : B ≤ B') : KF P B w ad cap ps := by
  obtain ⟨cs, ho, h1⟩ := h; exact ⟨cs, owns_low ho hB, h1⟩
/-- Where the cells of a row lie. -/
theorem row_cells {B : Nat} {w : World} {T : TypeId} {sz n cap : Nat} {ad : Option Addr} {cs : List Value} (h : w.ownsRow B T sz (.slice ad n cap) n cs) (hn : 0 < n) : ∃ g, ad = some ⟨g, 0, none⟩ ∧ ∀ j u, cs[j]? = some u → w.cell? ((⟨g, 0, none⟩ : Addr).add j) = some u := by
  obtain ⟨g, cap', hv, -⟩ := h.form hn; simp only [Value.slice.injEq, true_and] at hv; obtain ⟨rfl, -⟩ := hv; (exact ⟨g, rfl, fun j u hu => h.cells rfl j u hu⟩)
theorem KF.keep {P : Nat → Prop} {B : Nat} {w w' : World} {ad : Option Addr} {cap : Nat} {ps : List Pf} (h : KF P B w ad cap ps) (hb : ∀ b, P b → b < w.heap.size → w'.heap[b]? = w.heap[b]?) (hg : ∀ b, (Value.slice ad ps.length cap).ownBlock = some b → w'.heap[b]? = w.heap[b]?) : KF P B w' ad cap ps := by
  obtain ⟨cs, ho, h3⟩ := h; (exact ⟨cs, owns_keep ho hg, PQ.move (fun b hb1 hb2 => ⟨hb b hb2.1 hb1, hb2⟩) h3⟩)
end Go.Proofs.YtalnljnincnbdacGreat
/- A proof with a formula for a name: plain. -/
namespace Go.Proofs.YtalnljnincnbdacGreat
open Go.RowKit

/-- Premises under a map. -/
def MpR (φ : Fm → Fm) : List (List Fm × List Fm) → List (List Fm × List Fm) → Prop
  | [], [] => True
  | s :: ss, t :: ts => t.1.Perm (s.1.map φ) ∧ t.2.Perm (s.2.map φ) ∧ MpR φ ss ts
  | _, _ => False
theorem MpR.len {φ : Fm → Fm} : ∀ {ss ts : List (List Fm × List Fm)}, MpR φ ss ts → ts.length = ss.length
  | [], [], _ => rfl
  | s :: ss, t :: ts, h => by rw [List.length_cons, List.length_cons, MpR.len h.2.2]
  | [], _ :: _, h => h.elim
  | _ :: _, [], h => h.elim
mutual
/-- Every step, with the formula for the name, is well made. -/
def Pf.fits (nm : ByteArray) (g : Fm) : Pf → Prop
  | .mk a f l r ks => (seqCode (l.map (putF nm g)) (r.map (putF nm g))).1 = 0 ∧ (a.data.toList ≠ weakT → (putF nm g f).pcode.1 = 0) ∧ Pf.fitsL nm g ks
def Pf.fitsL (nm : ByteArray) (g : Fm) : List Pf → Prop
  | [] => True
  | k :: ks => k.fits nm g ∧ Pf.fitsL nm g ks
end
end Go.Proofs.YtalnljnincnbdacGreat
/- A proof with a formula for a name: what its steps tell, and its measures. -/
namespace Go.Proofs.YtalnljnincnbdacGreat
open Go.RowKit

/-- Not too many at a place, and no formula too broad. -/
inductive GoodS : Pf → Prop
  | mk (a : ByteArray) (f : Fm) (l r : List Fm) (ks : List Pf) (h0 : Slim f) (h1 : l.length ≤ 300) (h2 : r.length ≤ 300) (hl : ∀ g ∈ l, Slim g) (hr : ∀ g ∈ r, Slim g) (h3 : ks.length ≤ 1200) (h4 : ∀ (i : Nat) (k : Pf), ks[i]? = some k → GoodS k) : GoodS (.mk a f l r ks)
theorem GoodS.parts {a : ByteArray} {f : Fm} {l r : List Fm} {ks : List Pf} (h : GoodS (.mk a f l r ks)) : Slim f ∧ l.length ≤ 300 ∧ r.length ≤ 300 ∧ (∀ g ∈ l, Slim g) ∧ (∀ g ∈ r, Slim g) ∧ ks.length ≤ 1200 ∧ ∀ (i : Nat) (k : Pf), ks[i]? = some k → GoodS k := by
  cases h with | mk _ _ _ _ _ h0 h1 h2 hl hr h3 h4 => exact ⟨h0, h1, h2, hl, hr, h3, h4⟩
end Go.Proofs.YtalnljnincnbdacGreat
