/- Texts of one proof, one behind the other: Free9. -/
import Derived.Test.YtfhbpfgbnfcdaagB07
/- The same law where some operations make new blocks: these are different. -/
namespace Go.Proofs.Ytfhbpfgbnfcdaag
open Go.RowKit

/-- What is to be shown of one operation, where some make new blocks. -/
def StepOkN (P : Program) (ops : Array Oper) (Q : Exit → Act → World → Prop) (phi : List (Value → World → Prop)) (fr : Nat → Bool) (a0 : Act) (W : World) (i : Nat) (o : Oper) : Prop :=
  ∀ a w, Below W.heap.size W w → OldSlots ops a0 a →
    (∀ j, waits .any o j = true → ∀ o' d, ops[j]? = some o' → o'.dst = some d → ∃ v, a.tmps[d]? = some v ∧ phiAt phi j v w) →
    ∀ K : Act → World → Prop, Hid (∀ v w', phiAt phi i v w' → Below w.heap.size w w' → (fr i = true → ∃ b, v = .pointer (some ⟨b, 0, none⟩) ∧ w.heap.size ≤ b ∧ b < w'.heap.size) → K (a.put o.dst v) w') → if Region.wanted o (yielded ops a.tmps) = true then Oper.wp P o a w K Q else K (a.put o.dst undef) w
def StepsOkN (P : Program) (ops : Array Oper) (Q : Exit → Act → World → Prop) (phi : List (Value → World → Prop)) (fr : Nat → Bool) (a0 : Act) (W : World) : Nat → List Oper → Prop
  | _, [] => True
  | i, o :: os => StepOkN P ops Q phi fr a0 W i o ∧ StepsOkN P ops Q phi fr a0 W (i + 1) os
theorem StepsOkN.get {P : Program} {ops : Array Oper} {Q : Exit → Act → World → Prop} {phi : List (Value → World → Prop)} {fr : Nat → Bool} {a0 : Act} {W : World} : ∀ {i : Nat} {os : List Oper}, StepsOkN P ops Q phi fr a0 W i os → ∀ (j : Nat) (o : Oper), os[j]? = some o → StepOkN P ops Q phi fr a0 W (i + j) o
  | _, [], _, j, o, h => by simp at h
  | i, x :: os, hs, j, o, h => by
    cases j with
    | zero => simp at h; subst h; exact hs.1
    | succ j =>
      (have := StepsOkN.get hs.2 j o (by simpa using h))
      rwa [show i + 1 + j = i + (j + 1) by omega] at this
/-- The new blocks so far: they are there, and they are different. -/
structure Sep (ops : Array Oper) (fr : Nat → Bool) (listed : Array Bool) (a : Act) (w : World) : Prop where
  clo : ∀ i o, ops[i]? = some o → listed.getD i false = true → ∀ j, waits .any o j = true → listed.getD j false = true
  inn : ∀ i o d, ops[i]? = some o → listed.getD i false = true → fr i = true → o.dst = some d → ∃ b, a.tmps[d]? = some (.pointer (some ⟨b, 0, none⟩)) ∧ b < w.heap.size
  sep : ∀ i j o o' d d' b b', i ≠ j → ops[i]? = some o → ops[j]? = some o' → listed.getD i false = true → listed.getD j false = true → fr i = true → fr j = true → o.dst = some d → o'.dst = some d' → a.tmps[d]? = some (.pointer (some ⟨b, 0, none⟩)) → a.tmps[d']? = some (.pointer (some ⟨b', 0, none⟩)) → b ≠ b'
section
variable {P : Program} {ops : Array Oper} {Q : Exit → Act → World → Prop} {a0 : Act} {W : World}

/-- The same, with two last operations that may write. -/
theorem wp_region_new2 {id : Nat} (fr : Nat → Bool) (hm : P.follows .mixedOrders = true) (phi : List (Value → World → Prop)) (hst : ∀ p ∈ phi, Stays p) (ht : tidyOps ops = true) (hb : backOps ops = true) (N : Nat) (hN : a0.tmps.size = N) (hf : ops.toList.all (fun o => match o.dst with | some d => decide (d < N) | none => true) = true)
    (m : Nat) (ol ol2 : Oper) (hm1 : ops.size = m + 2) (hol : ops[m]? = some ol) (hol2 : ops[m + 1]? = some ol2) (hw : ((List.range m).all fun j => waits .any ol j || (List.range m).any fun k => waits .any ol k && (match ops[k]? with | some o => waits .any o j | none => false)) = true) (hw2 : waits .any ol2 m = true) (hs : StepsOkN P ops Q phi fr a0 W 0 (ops.toList.take m))
    (he : ∀ a w, Below W.heap.size W w → OldSlots ops a0 a → (∀ i o d, i < m → ops[i]? = some o → o.dst = some d → ∃ v, a.tmps[d]? = some v ∧ phiAt phi i v w) → (∀ i j o o' d d' b b', i ≠ j → i < m → j < m → ops[i]? = some o → ops[j]? = some o' → fr i = true → fr j = true → o.dst = some d → o'.dst = some d' → a.tmps[d]? = some (.pointer (some ⟨b, 0, none⟩)) → a.tmps[d']? = some (.pointer (some ⟨b', 0, none⟩)) → b ≠ b') → ∀ K : Act → World → Prop, Hid (∀ a' w', (∀ K2 : Act → World → Prop, Hid (∀ a'' w'', Q .normal a'' w'' → K2 a'' w'') → if Region.wanted ol2 (yielded ops a'.tmps) = true then Oper.wp P ol2 a' w' K2 Q else K2 (a'.put ol2.dst undef) w') → K a' w') → if Region.wanted ol (yielded ops a.tmps) = true then Oper.wp P ol a w K Q else K (a.put ol.dst undef) w) : (Code.region id ops true).wp P Q a0 W := by
  have hst' : ∀ i, Stays (phiAt phi i) := fun i => by
    unfold phiAt; rw [List.getD_eq_getElem?_getD]
    rcases Nat.lt_or_ge i phi.length with h | h
    · rw [List.getElem?_eq_getElem h]
      exact hst _ (List.getElem_mem h)
    · rw [List.getElem?_eq_none h]
      (exact fun _ _ _ _ _ => trivial)
  have done : ∀ (fuel : Nat) (listed : Array Bool) (a : Act) (w : World), Region.ready .any ops listed = [] → Q .normal a w → wpAny P .any ops Q fuel listed a w := fun fuel listed a w hr hq => by
    cases fuel with
    | zero => exact ⟨hr, hq⟩
    | succ fuel => exact ⟨fun _ => hq, fun i hi => by rw [hr] at hi; cases hi⟩
  have main : ∀ (fuel : Nat) (listed : Array Bool) (a : Act) (w : World), listed.size = ops.size → unl listed.toList ≤ fuel → listed.getD m true = false → listed.getD (m + 1) true = false → Sep ops fr listed a w → Way ops phi a0 W listed a w → wpAny P .any ops Q fuel listed a w := by
    have hend : ∀ (listed : Array Bool) (a : Act) (w : World), listed.size = ops.size → listed.getD m true = false → Region.ready .any ops listed = [] → Q .normal a w := fun listed a w hsz hm0 hr => by
      (have := all_listed hb hsz hr (m + 1) m (Nat.lt_succ_self _) (by omega)); (rw [Array.getD_eq_getD_getElem?, Array.getElem?_eq_getElem (by omega)] at this hm0); simp at this hm0; rw [hm0] at this
      cases this
    intro fuel
    induction fuel with
    | zero =>
      intro listed a w hsz hu hmf hmf2 _ hw
      have hr : Region.ready .any ops listed = [] := by
        rw [List.eq_nil_iff_forall_not_mem]; intro i hi; obtain ⟨h0, o, ho, -⟩ := mem_ready.1 hi; have hlt := (Array.getElem?_eq_some_iff.1 ho).1
        have h1 : listed.toList[i]? = some false := by
          (rw [Array.getElem?_toList, Array.getElem?_eq_getElem (by omega)]); (rw [Array.getD_eq_getD_getElem?, Array.getElem?_eq_getElem (by omega)] at h0); simpa using h0
        have := unl_set _ _ h1; omega
      exact ⟨hr, hend listed a w hsz hmf hr⟩
    | succ fuel ih =>
      intro listed a w hsz hu hmf hmf2 hsep hwy; (refine ⟨hend listed a w hsz hmf, fun i hi => ?_⟩); obtain ⟨h0, o, ho, hdep⟩ := mem_ready.1 hi; have hlt := (Array.getElem?_eq_some_iff.1 ho).1
      have h1 : listed.toList[i]? = some false := by
        (rw [Array.getElem?_toList, Array.getElem?_eq_getElem (by omega)]); (rw [Array.getD_eq_getD_getElem?, Array.getElem?_eq_getElem (by omega)] at h0); simpa using h0
      have hu' := unl_set _ _ h1; by_cases him : i = m
      · subst him
        rw [hol] at ho
        cases ho
        have hdir : ∀ j, waits .any ol j = true → listed.getD j false = true := fun j hwj => by
          unfold waits at hwj; rw [List.any_eq_true] at hwj; obtain ⟨e, hk, hk2⟩ := hwj; rw [Bool.and_eq_true, beq_iff_eq] at hk2; have := hdep e (Array.mem_toList_iff.1 hk) hk2.1
          rwa [hk2.2] at this
        have hall : ∀ j, j < i → listed.getD j false = true := fun j hj => by
          have hwj := List.all_eq_true.1 hw j (List.mem_range.2 hj)
          rcases Bool.or_eq_true_iff.1 hwj with h | h
          · exact hdir j h
          · obtain ⟨k, -, hk⟩ := List.any_eq_true.1 h
            obtain ⟨hk1, hk2⟩ := Bool.and_eq_true_iff.1 hk
            cases hok : ops[k]? with
            | none => rw [hok] at hk2; cases hk2
            | some o =>
              rw [hok] at hk2; exact hsep.clo k o hok (hdir k hk1) j hk2
        have hnext : ∀ a' w', (∀ K2 : Act → World → Prop, Hid (∀ a'' w'', Q .normal a'' w'' → K2 a'' w'') → if Region.wanted ol2 (yielded ops a'.tmps) = true then Oper.wp P ol2 a' w' K2 Q else K2 (a'.put ol2.dst undef) w') → wpAny P .any ops Q fuel (listed.setIfInBounds i true) a' w' := fun a' w' ht2 => by
          (have hsz2 : (listed.setIfInBounds i true).size = ops.size := by simpa using hsz); (have hm2 : (listed.setIfInBounds i true).getD (i + 1) true = false := by rw [getD_set_ne true (by omega)]; exact hmf2)
          have hg2 : (listed.setIfInBounds i true).toList[i + 1]? = some false := by
            (rw [Array.getElem?_toList, Array.getElem?_eq_getElem (by omega)]); (rw [Array.getD_eq_getD_getElem?, Array.getElem?_eq_getElem (by omega)] at hm2); simpa using hm2
          have hu2 := unl_set _ _ hg2
          have hall2 : ∀ j, j < i + 1 → (listed.setIfInBounds i true).getD j false = true := fun j hj => by
            by_cases e : i = j
            · subst e; simp [hsz, hlt]
            · rw [getD_set_ne false e]; exact hall j (by omega)
          (have hle : unl (listed.setIfInBounds i true).toList ≤ fuel := by rw [Array.toList_setIfInBounds]; omega)
          cases fuel with
          | zero => omega
          | succ fuel =>
            (refine ⟨fun hr => ?_, fun j hj => ?_⟩)
            · have := all_listed hb hsz2 hr (i + 2) (i + 1) (by omega) (by omega)
              (rw [Array.getD_eq_getD_getElem?, Array.getElem?_eq_getElem (by omega)] at this hm2); simp at this hm2; rw [hm2] at this
              cases this
            · obtain ⟨g0, o', ho', -⟩ := mem_ready.1 hj
              have hjl := (Array.getElem?_eq_some_iff.1 ho').1
              have hji : j = i + 1 := by
                rcases Nat.lt_or_ge j (i + 1) with h | h
                · have := hall2 j h
                  (rw [Array.getD_eq_getD_getElem?, Array.getElem?_eq_getElem (by omega)] at this g0); simp at this g0; rw [g0] at this
                  cases this
                · omega
              subst hji
              have hnone : Region.ready .any ops ((listed.setIfInBounds i true).setIfInBounds (i + 1) true) = [] := by
                rw [List.eq_nil_iff_forall_not_mem]; intro q hq; obtain ⟨q0, oq, hoq, -⟩ := mem_ready.1 hq; have hql := (Array.getElem?_eq_some_iff.1 hoq).1; by_cases hqi : i + 1 = q
                · subst hqi
                  simp [hsz, hjl] at q0
                · rw [getD_set_ne true hqi] at q0
                  (have := hall2 q (by omega)); (rw [Array.getD_eq_getD_getElem?, Array.getElem?_eq_getElem (by omega)] at this q0); simp at this q0; rw [q0] at this
                  cases this
              (have hstep := ht2 (wpAny P .any ops Q fuel ((listed.setIfInBounds i true).setIfInBounds (i + 1) true)) (fun a'' w'' hq => done _ _ _ _ hnone hq)); unfold wpOp; simp only [hol2]
              split
              · rename_i hw1
                rw [if_pos hw1] at hstep; exact Or.inl hstep
              · rename_i hw1
                rw [if_neg hw1] at hstep; exact hstep
        (have hstep := he a w hwy.below hwy.old (fun j o' d hj hoj hd => hwy.got j o' d hoj (hall j hj) hd) (fun x y o1 o2 d1 d2 c1 c2 hne hx hy => fun h1 h2 f1 f2 => hsep.sep x y o1 o2 d1 d2 c1 c2 hne h1 h2 (hall x hx) (hall y hy) f1 f2) (wpAny P .any ops Q fuel (listed.setIfInBounds i true)) (fun a' w' hq => hnext a' w' hq)); unfold wpOp; simp only [hol]
        split
        · rename_i hw1
          rw [if_pos hw1] at hstep; exact Or.inl hstep
        · rename_i hw1
          rw [if_neg hw1] at hstep; exact hstep
      by_cases him2 : i = m + 1
      · subst him2
        rw [hol2] at ho
        cases ho
        have hwj := hw2; unfold waits at hwj; rw [List.any_eq_true] at hwj; obtain ⟨e, hk, hk2⟩ := hwj; rw [Bool.and_eq_true, beq_iff_eq] at hk2; have := hdep e (Array.mem_toList_iff.1 hk) hk2.1; rw [hk2.2] at this; (rw [Array.getD_eq_getD_getElem?, Array.getElem?_eq_getElem (by omega)] at this hmf); simp at this hmf; rw [hmf] at this
        cases this
      have hok : StepOkN P ops Q phi fr a0 W i o := by
        (have := hs.get i o (by rw [List.getElem?_take_of_lt (by omega), Array.getElem?_toList]; exact ho))
        rwa [Nat.zero_add] at this
      have hstep := hok a w hwy.below hwy.old (fun j hj o' d hj' hd => hwy.got j o' d hj' (by
        unfold waits at hj; rw [List.any_eq_true] at hj; obtain ⟨e, hk, hk2⟩ := hj; rw [Bool.and_eq_true, beq_iff_eq] at hk2; have := hdep e (Array.mem_toList_iff.1 hk) hk2.1
        rwa [hk2.2] at this) hd) (wpAny P .any ops Q fuel (listed.setIfInBounds i true)) (fun v w' hp hbw hfresh => by
        (refine ih _ _ _ (by simpa using hsz) (by rw [Array.toList_setIfInBounds]; omega) (by rw [getD_set_ne true him]; exact hmf) (by rw [getD_set_ne true him2]; exact hmf2) ?_ ?_)
        · have hput : ∀ (j : Nat) (o' : Oper) (d' : Nat), i ≠ j → ops[j]? = some o' → o'.dst = some d' → (a.put o.dst v).tmps[d']? = a.tmps[d']? := fun j o' d' hji hj hd' => by
            cases hdo : o.dst with
            | none => rfl
            | some d0 =>
              (have hne : d0 ≠ d' := fun e => hji (tidy_spec ht ho hj (by rw [hdo, e]) hd')); simp [Act.put, Array.getElem?_setIfInBounds_ne hne]
          have hself : ∀ d, o.dst = some d → (a.put o.dst v).tmps[d]? = some v := fun d hd => by
            (have hdl : d < a.tmps.size := by rw [hwy.old.1]; exact hwy.fits o d (by rw [Array.mem_toList_iff]; exact Array.mem_of_getElem? ho) hd); rw [hd]; simp [Act.put, hdl]
          (refine ⟨fun j o' hj hlj q hq => ?_, fun j o' d hj hlj hfj hd => ?_, fun j q oj oq dj dq bj bq hjq hj hq hlj hlq hfj hfq hdj hdq htj htq => ?_⟩)
          · have hset : ∀ x, listed.getD x false = true → (listed.setIfInBounds i true).getD x false = true := fun x hx => by
              by_cases hxi : i = x
              · subst hxi; simp [hsz, hlt]
              · rw [getD_set_ne false hxi]; exact hx
            by_cases hji : i = j
            · subst hji
              rw [ho] at hj
              cases hj
              unfold waits at hq; rw [List.any_eq_true] at hq; obtain ⟨e, hk, hk2⟩ := hq; rw [Bool.and_eq_true, beq_iff_eq] at hk2; have := hdep e (Array.mem_toList_iff.1 hk) hk2.1; rw [hk2.2] at this; exact hset q this
            · rw [getD_set_ne false hji] at hlj
              exact hset q (hsep.clo j o' hj hlj q hq)
          · by_cases hji : i = j
            · subst hji
              rw [ho] at hj
              cases hj
              obtain ⟨b, hvb, -, hb2⟩ := hfresh hfj; (exact ⟨b, by rw [hself d hd, hvb], hb2⟩)
            · rw [getD_set_ne false hji] at hlj
              obtain ⟨b, h1b, h2b⟩ := hsep.inn j o' d hj hlj hfj hd; (exact ⟨b, by rw [hput j o' d hji hj hd]; exact h1b, Nat.lt_of_lt_of_le h2b hbw.size⟩)
          · by_cases hji : i = j
            · subst hji
              rw [ho] at hj
              cases hj
              obtain ⟨b, hvb, hb1, -⟩ := hfresh hfj; rw [hself dj hdj, hvb] at htj; rw [getD_set_ne false hjq] at hlq; rw [hput q oq dq hjq hq hdq] at htq; obtain ⟨b', h1b, h2b⟩ := hsep.inn q oq dq hq hlq hfq hdq; rw [h1b] at htq; simp at htj htq; omega
            · rw [getD_set_ne false hji] at hlj
              rw [hput j oj dj hji hj hdj] at htj; by_cases hqi : i = q
              · subst hqi
                rw [ho] at hq
                cases hq
                obtain ⟨b, hvb, hb1, -⟩ := hfresh hfq; rw [hself dq hdq, hvb] at htq; obtain ⟨b', h1b, h2b⟩ := hsep.inn j oj dj hj hlj hfj hdj; rw [h1b] at htj; simp at htj htq; omega
              · rw [getD_set_ne false hqi] at hlq
                rw [hput q oq dq hqi hq hdq] at htq; exact hsep.sep j q oj oq dj dq bj bq hjq hj hq hlj hlq hfj hfq hdj hdq htj htq
        (have hbel : Below W.heap.size W w' := hwy.below.trans (hbw.mono (by have := hwy.below.size; exact this))); refine ⟨hbel, ?_, ?_, hwy.fits⟩
        · obtain ⟨o1, o2, o3⟩ := hwy.old
          (refine ⟨?_, ?_, fun t ht' => ?_⟩)
          · cases hd : o.dst <;> simp [Act.put, o1]
          · cases hd : o.dst <;> simp [Act.put, o2]
          · rw [← o3 t ht']
            cases hd : o.dst with
            | none => rfl
            | some d =>
              have hne : d ≠ t := fun e => by
                have := List.all_eq_true.1 ht' o (Array.mem_toList_iff.2 (Array.mem_of_getElem? ho)); rw [hd, e] at this; simp at this
              simp [Act.put, Array.getElem?_setIfInBounds_ne hne]
        · intro j o' d hj hlj hd
          by_cases hji : i = j
          · subst hji
            rw [ho] at hj
            cases hj
            have hdl : d < a.tmps.size := by rw [hwy.old.1]; exact hwy.fits o d (by
              rw [Array.mem_toList_iff]; exact Array.mem_of_getElem? ho) hd
            (exact ⟨v, by rw [hd]; simp [Act.put, hdl], hp⟩)
          · rw [getD_set_ne false hji] at hlj
            obtain ⟨u, hu1, hu2⟩ := hwy.got j o' d hj hlj hd; refine ⟨u, ?_, hst' j u w w' hu2 hbw⟩
            cases hd' : o.dst with
            | none => exact hu1
            | some d' =>
              (have hne : d' ≠ d := fun e => hji (tidy_spec ht ho hj (by rw [hd', e]) hd))
              simp [Act.put, Array.getElem?_setIfInBounds_ne hne, hu1])
      unfold wpOp; simp only [ho]
      split
      · rename_i hw1
        rw [if_pos hw1] at hstep; exact Or.inl hstep
      · rename_i hw1
        rw [if_neg hw1] at hstep; exact hstep
  (refine wp_region_any hm (main _ _ _ _ (by simp) ?_ (by simp [hm1]) (by simp [hm1]) ?_ ⟨?_, ⟨rfl, rfl, fun _ _ => rfl⟩, ?_, ?_⟩))
  · have : unl (Array.replicate ops.size false).toList ≤ (Array.replicate ops.size false).toList.length := List.countP_le_length
    simpa using this
  · have hno : ∀ i, (Array.replicate ops.size false).getD i false = true → False := fun i h => by
      rw [Array.getD_eq_getD_getElem?] at h
      rcases Nat.lt_or_ge i ops.size with h1 | h1
      · simp [h1] at h
      · simp [Nat.not_lt.2 h1] at h
    (exact ⟨fun i _ _ h => (hno i h).elim, fun i _ _ _ h => (hno i h).elim, fun i _ _ _ _ _ _ _ _ _ _ h => (hno i h).elim⟩)
  · exact ⟨rfl, rfl, rfl, Nat.le_refl _, fun _ _ => rfl⟩
  · intro i o d _ h _
    rw [Array.getD_eq_getD_getElem?] at h
    rcases Nat.lt_or_ge i ops.size with h1 | h1
    · simp [h1] at h
    · simp [Nat.not_lt.2 h1] at h
  · intro o d ho hd
    have := List.all_eq_true.1 hf o ho; rw [hd] at this; rw [hN]; simpa using this
end
end Go.Proofs.Ytfhbpfgbnfcdaag
