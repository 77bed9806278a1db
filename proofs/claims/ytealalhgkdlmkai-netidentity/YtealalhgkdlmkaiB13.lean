/- Texts of one proof, one behind the other: FreeD, ME4, NTL. -/
import Derived.Test.YtealalhgkdlmkaiB09
import Derived.Test.YtealalhgkdlmkaiB08
import Derived.Test.YtealalhgkdlmkaiB02
import Derived.Test.YtealalhgkdlmkaiB01
import Derived.Laws.BitsLemmas
import Derived.Deep.LoopGhost
import Derived.Test.YtealalhgkdlmkaiB06
import Derived.Test.YtealalhgkdlmkaiB04
import Derived.Deep.QuietTactic
import Derived.BigQuiet
/- A law for regions that draw their order: as wp_region_wrt, with facts on which operation made which block. -/
namespace Go.Proofs.Ytealalhgkdlmkai
open Go.RowKit

structure WayD (m : Nat) (ops : Array Oper) (phi : List Fact) (E : Nat → Option Value) (x : Nat) (psi : Value → World → Prop) (a0 : Act) (W : World) (listed : Array Bool) (a : Act) (w : World) (t : Nat → Nat) : Prop where
  old : OldSlots ⟨ops.toList.take m⟩ a0 a
  fits : ∀ o d, o ∈ ops.toList → o.dst = some d → d < a0.tmps.size
  clo : ∀ i o, ops[i]? = some o → listed.getD i false = true → ∀ j, waits .any o j = true → listed.getD j false = true
  pure : ∀ i o d c, ops[i]? = some o → listed.getD i false = true → o.dst = some d → E i = some c → a.tmps[d]? = some c
  ahead : listed.getD x false = false → Below W.heap.size W w ∧ ∀ i o d, ops[i]? = some o → listed.getD i false = true → o.dst = some d → E i = none → ∃ v, a.tmps[d]? = some v ∧ factAt phi i v w t
  behind : listed.getD x false = true → ∀ o d, ops[x]? = some o → o.dst = some d → ∃ v, a.tmps[d]? = some v ∧ psi v w
/-- What is to be shown of one operation that is not plain: it is told who made which block. -/
def StepOkD (P : Program) (ops : Array Oper) (Q : Exit → Act → World → Prop) (phi : List Fact) (m : Nat) (a0 : Act) (W : World) (i : Nat) (o : Oper) : Prop :=
  ∀ a w t, Below W.heap.size W w → OldSlots ⟨ops.toList.take m⟩ a0 a → (∀ j, waits .any o j = true → ∀ o' d, ops[j]? = some o' → o'.dst = some d → ∃ v, a.tmps[d]? = some v ∧ factAt phi j v w t) →
    ∀ K : Act → World → Prop, Hid (∀ v w', factAt phi i v w' (mark w t i) → Below w.heap.size w w' → K (a.put o.dst v) w') → if Region.wanted o (yielded ops a.tmps) = true then Oper.wp P o a w K Q else K (a.put o.dst undef) w
section
variable {P : Program} {ops : Array Oper} {Q : Exit → Act → World → Prop} {a0 : Act} {W : World}
theorem WayD.reach {m : Nat} {phi : List Fact} {E : Nat → Option Value} {x : Nat} {psi : Value → World → Prop} {listed : Array Bool} {a : Act} {w : World} {t : Nat → Nat} (h : WayD m ops phi E x psi a0 W listed a w t) : ∀ (n i j : Nat), listed.getD i false = true → reachB ops n i j = true → listed.getD j false = true
  | 0, i, j, hi, hr => by
    unfold reachB at hr
    cases ho : ops[i]? with
    | none => rw [ho] at hr; cases hr
    | some o => rw [ho] at hr; exact h.clo i o ho hi j hr
  | n + 1, i, j, hi, hr => by
    unfold reachB at hr
    cases ho : ops[i]? with
    | none => rw [ho] at hr; cases hr
    | some o =>
      rw [ho] at hr
      rcases Bool.or_eq_true_iff.1 hr with h1 | h1
      · exact h.clo i o ho hi j h1
      · obtain ⟨k, -, hk⟩ := List.any_eq_true.1 h1
        obtain ⟨hk1, hk2⟩ := Bool.and_eq_true_iff.1 hk; exact WayD.reach h n k j (h.clo i o ho hi k hk1) hk2
def StepsD (m : Nat) (P : Program) (ops : Array Oper) (Q : Exit → Act → World → Prop) (phi : List Fact) (E : Nat → Option Value) (x : Nat) (a0 : Act) (W : World) : Nat → List Oper → Prop
  | _, [] => True
  | i, o :: os => (if i = x then True else match E i with | some c => StepEB P ops Q m E a0 o c | none => StepOkD P ops Q phi m a0 W i o) ∧ StepsD m P ops Q phi E x a0 W (i + 1) os
theorem StepsD.get {m : Nat} {phi : List Fact} {E : Nat → Option Value} {x : Nat} : ∀ {i : Nat} {os : List Oper}, StepsD m P ops Q phi E x a0 W i os → ∀ (j : Nat) (o : Oper), os[j]? = some o → (if i + j = x then True else match E (i + j) with | some c => StepEB P ops Q m E a0 o c | none => StepOkD P ops Q phi m a0 W (i + j) o)
  | _, [], _, j, o, h => by simp at h
  | i, y :: os, hs, j, o, h => by
    cases j with
    | zero => simp at h; subst h; exact hs.1
    | succ j =>
      (have := StepsD.get hs.2 j o (by simpa using h))
      rwa [show i + 1 + j = i + (j + 1) by omega] at this
/-- **The region**: x writes, the last one ends; it may wait for others through others. -/
theorem wp_region_wrd {id : Nat} (hm : P.follows .mixedOrders = true) (phi : List Fact) (hst : ∀ p ∈ phi, Stays3 p) (ht : tidyOps ops = true) (hb : backOps ops = true) (N : Nat) (hN : a0.tmps.size = N) (hf : ops.toList.all (fun o => match o.dst with | some d => decide (d < N) | none => true) = true)
    (m : Nat) (ol : Oper) (hm1 : ops.size = m + 1) (hol : ops[m]? = some ol) (nn : Nat) (hw : ((List.range m).all fun j => waits .any ol j || (List.range m).any fun k => waits .any ol k && reachB ops nn k j) = true)
    (E : Nat → Option Value) (x : Nat) (ox : Oper) (hxm : x < m) (hox : ops[x]? = some ox) (hEx : E x = none) (n : Nat) (hr : ((List.range m).all fun j => j == x || (E j).isSome || reachB ops n x j) = true) (psi : Value → World → Prop) (hpure : ∀ j c w t, E j = some c → factAt phi j c w t)
    (hs : StepsD m P ops Q phi E x a0 W 0 (ops.toList.take m))
    (hx : ∀ a w t, Below W.heap.size W w → OldSlots ⟨ops.toList.take m⟩ a0 a → (∀ i o d, i < m → i ≠ x → E i = none → ops[i]? = some o → o.dst = some d → ∃ v, a.tmps[d]? = some v ∧ factAt phi i v w t) → ∀ K : Act → World → Prop, Hid (∀ v w', psi v w' → K (a.put ox.dst v) w') → if Region.wanted ox (yielded ops a.tmps) = true then Oper.wp P ox a w K Q else K (a.put ox.dst undef) w)
    (he : ∀ a w, OldSlots ⟨ops.toList.take m⟩ a0 a → (∀ d, ox.dst = some d → ∃ v, a.tmps[d]? = some v ∧ psi v w) → (∀ i o d c, ops[i]? = some o → i < m → o.dst = some d → E i = some c → a.tmps[d]? = some c) → ∀ K : Act → World → Prop, Hid (∀ a' w', Q .normal a' w' → K a' w') → if Region.wanted ol (yielded ops a.tmps) = true then Oper.wp P ol a w K Q else K (a.put ol.dst undef) w) : (Code.region id ops true).wp P Q a0 W := by
  have hst' : ∀ i, Stays3 (factAt phi i) := fun i => by
    unfold factAt; rw [List.getD_eq_getElem?_getD]
    rcases Nat.lt_or_ge i phi.length with h | h
    · rw [List.getElem?_eq_getElem h]
      exact hst _ (List.getElem_mem h)
    · rw [List.getElem?_eq_none h]
      (exact fun _ _ _ _ _ _ _ _ => trivial)
  have done : ∀ (fuel : Nat) (listed : Array Bool) (a : Act) (w : World), Region.ready .any ops listed = [] → Q .normal a w → wpAny P .any ops Q fuel listed a w := fun fuel listed a w hr hq => by
    cases fuel with
    | zero => exact ⟨hr, hq⟩
    | succ fuel => exact ⟨fun _ => hq, fun i hi => by rw [hr] at hi; cases hi⟩
  have main : ∀ (fuel : Nat) (listed : Array Bool) (a : Act) (w : World) (t : Nat → Nat), listed.size = ops.size → unl listed.toList ≤ fuel → listed.getD m true = false → WayD m ops phi E x psi a0 W listed a w t → wpAny P .any ops Q fuel listed a w := by
    have hend : ∀ (listed : Array Bool) (a : Act) (w : World), listed.size = ops.size → listed.getD m true = false → Region.ready .any ops listed = [] → Q .normal a w := fun listed a w hsz hm0 hr => by
      (have := all_listed hb hsz hr (m + 1) m (Nat.lt_succ_self _) (by omega)); (rw [Array.getD_eq_getD_getElem?, Array.getElem?_eq_getElem (by omega)] at this hm0); simp at this hm0; rw [hm0] at this
      cases this
    intro fuel
    induction fuel with
    | zero =>
      intro listed a w t hsz hu hmf hw
      have hr : Region.ready .any ops listed = [] := by
        rw [List.eq_nil_iff_forall_not_mem]; intro i hi; obtain ⟨h0, o, ho, -⟩ := mem_ready.1 hi; have hlt := (Array.getElem?_eq_some_iff.1 ho).1
        have h1 : listed.toList[i]? = some false := by
          (rw [Array.getElem?_toList, Array.getElem?_eq_getElem (by omega)]); (rw [Array.getD_eq_getD_getElem?, Array.getElem?_eq_getElem (by omega)] at h0); simpa using h0
        have := unl_set _ _ h1; omega
      exact ⟨hr, hend listed a w hsz hmf hr⟩
    | succ fuel ih =>
      intro listed a w t hsz hu hmf hwy; (refine ⟨hend listed a w hsz hmf, fun i hi => ?_⟩); obtain ⟨h0, o, ho, hdep⟩ := mem_ready.1 hi; have hlt := (Array.getElem?_eq_some_iff.1 ho).1
      have h1 : listed.toList[i]? = some false := by
        (rw [Array.getElem?_toList, Array.getElem?_eq_getElem (by omega)]); (rw [Array.getD_eq_getD_getElem?, Array.getElem?_eq_getElem (by omega)] at h0); simpa using h0
      have hun : listed.getD i false = false := by
        (rw [Array.getD_eq_getD_getElem?, Array.getElem?_eq_getElem (by omega)] at h0 ⊢); simpa using h0
      have hu' := unl_set _ _ h1
      have hdir : ∀ j, waits .any o j = true → listed.getD j false = true := fun j hwj => by
        unfold waits at hwj; rw [List.any_eq_true] at hwj; obtain ⟨e, hk, hk2⟩ := hwj; rw [Bool.and_eq_true, beq_iff_eq] at hk2; have := hdep e (Array.mem_toList_iff.1 hk) hk2.1
        rwa [hk2.2] at this
      have hset : ∀ q, listed.getD q false = true → (listed.setIfInBounds i true).getD q false = true := fun q hq => by
        by_cases hqi : i = q
        · subst hqi; simp [hsz, hlt]
        · rw [getD_set_ne false hqi]; exact hq
      have hput : ∀ (v : Value) (j : Nat) (o' : Oper) (d' : Nat), i ≠ j → ops[j]? = some o' → o'.dst = some d' → (a.put o.dst v).tmps[d']? = a.tmps[d']? := fun v j o' d' hji hj hd' => by
        cases hdo : o.dst with
        | none => rfl
        | some d0 =>
          (have hne : d0 ≠ d' := fun e => hji (tidy_spec ht ho hj (by rw [hdo, e]) hd')); simp [Act.put, Array.getElem?_setIfInBounds_ne hne]
      have hself : ∀ (v : Value) d, o.dst = some d → (a.put o.dst v).tmps[d]? = some v := fun v d hd => by
        (have hdl : d < a.tmps.size := by rw [hwy.old.1]; exact hwy.fits o d (by rw [Array.mem_toList_iff]; exact Array.mem_of_getElem? ho) hd); rw [hd]; simp [Act.put, hdl]
      have hold : i < m → ∀ v, OldSlots ⟨ops.toList.take m⟩ a0 (a.put o.dst v) := fun him v => by
        obtain ⟨o1, o2, o3⟩ := hwy.old; (refine ⟨?_, ?_, fun t ht' => ?_⟩)
        · cases hd : o.dst <;> simp [Act.put, o1]
        · cases hd : o.dst <;> simp [Act.put, o2]
        · rw [← o3 t ht']
          cases hd : o.dst with
          | none => rfl
          | some d =>
            have hne : d ≠ t := fun e => by
              (have := List.all_eq_true.1 ht' o (List.mem_of_getElem? (i := i) (by rw [List.getElem?_take_of_lt him, Array.getElem?_toList]; exact ho))); rw [hd, e] at this; simp at this
            simp [Act.put, Array.getElem?_setIfInBounds_ne hne]
      have hclo : ∀ j o', ops[j]? = some o' → (listed.setIfInBounds i true).getD j false = true → ∀ q, waits .any o' q = true → (listed.setIfInBounds i true).getD q false = true := fun j o' hj hlj q hq => by
        by_cases hji : i = j
        · subst hji
          rw [ho] at hj
          cases hj
          exact hset q (hdir q hq)
        · rw [getD_set_ne false hji] at hlj
          exact hset q (hwy.clo j o' hj hlj q hq)
      have hfin : ∀ (K : Act → World → Prop), (if Region.wanted o (yielded ops a.tmps) = true then Oper.wp P o a w K Q else K (a.put o.dst undef) w) → wpOp P ops Q i K a w := fun K hK => by
        unfold wpOp; simp only [ho]
        split
        · rename_i hw1
          rw [if_pos hw1] at hK; exact Or.inl hK
        · rename_i hw1
          rw [if_neg hw1] at hK; exact hK
      by_cases him : i = m
      · subst him
        rw [hol] at ho
        cases ho
        have hall : ∀ j, j < i → listed.getD j false = true := fun j hj => by
          rcases Bool.or_eq_true_iff.1 (List.all_eq_true.1 hw j (List.mem_range.2 hj)) with h1 | h1
          · exact hdir j h1
          · obtain ⟨k, -, hk⟩ := List.any_eq_true.1 h1
            obtain ⟨hk1, hk2⟩ := Bool.and_eq_true_iff.1 hk; exact hwy.reach nn k j (hdir k hk1) hk2
        have hnone : Region.ready .any ops (listed.setIfInBounds i true) = [] := by
          rw [List.eq_nil_iff_forall_not_mem]; intro j hj; obtain ⟨g0, o', ho', -⟩ := mem_ready.1 hj; have hjl := (Array.getElem?_eq_some_iff.1 ho').1; by_cases hji : i = j
          · subst hji
            simp [hsz, hlt] at g0
          · rw [getD_set_ne true hji] at g0
            (have := hall j (by omega)); (rw [Array.getD_eq_getD_getElem?, Array.getElem?_eq_getElem (by omega)] at this g0); simp at this g0; rw [g0] at this
            cases this
        (exact hfin _ (he a w hwy.old (fun d hd => hwy.behind (hall x hxm) ox d hox hd) (fun j o' d c hj hjm hd hc => hwy.pure j o' d c hj (hall j hjm) hd hc) _ (fun a' w' hq => done _ _ _ _ hnone hq)))
      (have hmf' : (listed.setIfInBounds i true).getD m true = false := by rw [getD_set_ne true him]; exact hmf); (have hsz' : (listed.setIfInBounds i true).size = ops.size := by simpa using hsz); (have hu2 : unl (listed.setIfInBounds i true).toList ≤ fuel := by rw [Array.toList_setIfInBounds]; omega); by_cases hix : i = x
      · subst hix
        rw [hox] at ho
        cases ho
        (have hself2 : (listed.setIfInBounds i true).getD i false = true := by simp [hsz, hlt])
        have hfree : ∀ j, j < m → j ≠ i → E j = none → listed.getD j false = true := fun j hj hne hE => by
          have := List.all_eq_true.1 hr j (List.mem_range.2 hj); rw [hE] at this; (have hne2 : (j == i) = false := by simpa using hne); rw [hne2] at this; simp only [Option.isSome_none, Bool.or_false, Bool.false_or] at this
          have key : ∀ (n j : Nat), reachB ops n i j = true → listed.getD j false = true := fun n j hr => by
            cases n with
            | zero =>
              unfold reachB at hr; rw [hox] at hr
              exact hdir j hr
            | succ n =>
              unfold reachB at hr; rw [hox] at hr
              rcases Bool.or_eq_true_iff.1 hr with h1 | h1
              · exact hdir j h1
              · obtain ⟨k, -, hk⟩ := List.any_eq_true.1 h1
                obtain ⟨hk1, hk2⟩ := Bool.and_eq_true_iff.1 hk; exact hwy.reach n k j (hdir k hk1) hk2
          exact key n j this
        obtain ⟨hbel, hgot⟩ := hwy.ahead hun; (refine hfin _ (hx a w t hbel hwy.old (fun j o' d hj hne hE hoj hd => hgot j o' d hoj (hfree j hj hne hE) hd hE) _ (fun v w' hp => ?_))); (refine ih _ _ _ t hsz' hu2 hmf' ⟨hold (by omega) v, hwy.fits, hclo, fun j o' d c hj hlj hd hc => ?_, fun h => (by rw [hself2] at h; cases h), fun _ o' d ho' hd => ?_⟩)
        · have hne : i ≠ j := fun e => by rw [← e, hEx] at hc; cases hc
          rw [getD_set_ne false hne] at hlj; rw [hput v j o' d hne hj hd]; exact hwy.pure j o' d c hj hlj hd hc
        · rw [hox] at ho'
          cases ho'
          exact ⟨v, hself v d hd, hp⟩
      (have hstep := hs.get i o (by rw [List.getElem?_take_of_lt (by omega), Array.getElem?_toList]; exact ho)); rw [Nat.zero_add, if_neg hix] at hstep; have hxl : (listed.setIfInBounds i true).getD x false = listed.getD x false := getD_set_ne false hix
      cases hE : E i with
      | some c =>
        rw [hE] at hstep; (refine hfin _ (hstep a w hwy.old (fun j hj o' d cj hoj hd hc => hwy.pure j o' d cj hoj (hdir j hj) hd hc) _ ?_)); (refine ih _ _ _ t hsz' hu2 hmf' ⟨hold (by omega) c, hwy.fits, hclo, fun j o' d cj hj hlj hd hc => ?_, fun h => ?_, fun h o' d ho' hd => ?_⟩)
        · by_cases hji : i = j
          · subst hji
            rw [ho] at hj
            cases hj
            rw [hE] at hc
            cases hc
            exact hself c d hd
          · rw [getD_set_ne false hji] at hlj
            rw [hput c j o' d hji hj hd]; exact hwy.pure j o' d cj hj hlj hd hc
        · rw [hxl] at h
          obtain ⟨hbel, hgot⟩ := hwy.ahead h; (refine ⟨hbel, fun j o' d hj hlj hd hEj => ?_⟩); (have hji : i ≠ j := fun e => by rw [← e, hE] at hEj; cases hEj); rw [getD_set_ne false hji] at hlj; rw [hput c j o' d hji hj hd]; exact hgot j o' d hj hlj hd hEj
        · rw [hxl] at h
          rw [hput c x o' d hix ho' hd]
          exact hwy.behind h o' d ho' hd
      | none =>
        rw [hE] at hstep
        have hxun : listed.getD x false = false := by
          cases hxl2 : listed.getD x false with
          | false => rfl
          | true =>
            (have := List.all_eq_true.1 hr i (List.mem_range.2 (by omega))); rw [hE] at this; (have hne2 : (i == x) = false := by simpa using hix); rw [hne2] at this; simp only [Option.isSome_none, Bool.or_false, Bool.false_or] at this; have := hwy.reach n x i hxl2 this; rw [hun] at this
            cases this
        obtain ⟨hbel, hgot⟩ := hwy.ahead hxun; (refine hfin _ (hstep a w t hbel hwy.old (fun j hj o' d hoj hd => ?_) _ (fun v w' hp hbw => ?_)))
        · cases hEj : E j with
          | none => exact hgot j o' d hoj (hdir j hj) hd hEj
          | some cj => exact ⟨cj, hwy.pure j o' d cj hoj (hdir j hj) hd hEj, hpure j cj w t hEj⟩
        · refine ih _ _ _ (mark w t i) hsz' hu2 hmf' ⟨hold (by omega) v, hwy.fits, hclo, fun j o' d cj hj hlj hd hc => ?_, fun h => ?_, fun h => (by rw [hxl, hxun] at h; cases h)⟩
          · have hji : i ≠ j := fun e => by rw [← e, hE] at hc; cases hc
            rw [getD_set_ne false hji] at hlj; rw [hput v j o' d hji hj hd]; exact hwy.pure j o' d cj hj hlj hd hc
          · refine ⟨hbel.trans (hbw.mono hbel.size), fun j o' d hj hlj hd hEj => ?_⟩
            by_cases hji : i = j
            · subst hji
              rw [ho] at hj
              cases hj
              exact ⟨v, hself v d hd, hp⟩
            · rw [getD_set_ne false hji] at hlj
              obtain ⟨u, hu1, hu2⟩ := hgot j o' d hj hlj hd hEj; (exact ⟨u, by rw [hput v j o' d hji hj hd]; exact hu1, hst' j u w t w' (mark w t i) hu2 hbw fun b hb => if_pos hb⟩)
  (refine wp_region_any hm (main _ _ _ _ (fun _ => 0) (by simp) ?_ (by simp [hm1]) ?_))
  · have : unl (Array.replicate ops.size false).toList ≤ (Array.replicate ops.size false).toList.length := List.countP_le_length
    simpa using this
  · have hno : ∀ i, (Array.replicate ops.size false).getD i false = true → False := fun i h => by
      rw [Array.getD_eq_getD_getElem?] at h
      rcases Nat.lt_or_ge i ops.size with h1 | h1
      · simp [h1] at h
      · simp [Nat.not_lt.2 h1] at h
    (refine ⟨⟨rfl, rfl, fun _ _ => rfl⟩, fun o d ho hd => ?_, fun i _ _ h => (hno i h).elim, fun i _ _ _ _ h => (hno i h).elim, fun _ => ⟨⟨rfl, rfl, rfl, Nat.le_refl _, fun _ _ => rfl⟩, fun i _ _ _ h => (hno i h).elim⟩, fun h => (hno x h).elim⟩); have := List.all_eq_true.1 hf o ho; rw [hd] at this; rw [hN]; simpa using this
end
end Go.Proofs.Ytealalhgkdlmkai
/- Walks: where a formula is true. -/
namespace Go.Proofs.Ytealalhgkdlmkai
open Go.RowKit

theorem blk_secE (w : World) (o o' : Obj) : ((w.alloc o).alloc o').heap[w.heap.size + 1]? = some o' := by
  have := blk_new (w.alloc o) o'
  rwa [show (w.alloc o).heap.size = w.heap.size + 1 by simp] at this
end Go.Proofs.Ytealalhgkdlmkai
/- Walks: what the laws' own yardstick does with linear formulas: VastLinear. -/
namespace Go.Proofs.Ytealalhgkdlmkai
open Go.RowKit

def VastsL (m : Nat) : Prop := ∀ (l : List Lm) (v : Value) (deep : Int) (w : World), Lm.sizes l < m → 0 ≤ deep → deep ≤ 3001 → LL w v l →
  Calls Try.prog 9 #[v, .int .i64 deep] w fun e w' => IsB e ∧ Below w.heap.size w w'
set_option maxHeartbeats 2000000 in
theorem vastL_step (m : Nat) (ih : VastsL m) : VastsL (m + 1) := by
  intro l v deep w hm hd0 hd hv; have HX : Hid (LL w v l) := hv; obtain ⟨sl, cap, rfl, hx2, hx3, -⟩ := hv; (have hlen : ((l.length : Nat) : Int) ≤ 9223372036854775807 := by unfold maxLen at hx3; omega); by_cases h1 : 3000 < deep
  · go_enter Try.func9, Try.ntmps9
    go_wp2_with fail; go_ret; exact ⟨⟨_, rfl⟩, Below.refl _ _⟩
  by_cases h2 : 3000 < l.length
  · have h2' : (3000 : Int) < (l.length : Int) := by omega
    go_enter Try.func9, Try.ntmps9
    go_wp2_with fail; go_ret; exact ⟨⟨_, rfl⟩, Below.refl _ _⟩
  (have h2' : (l.length : Int) ≤ 3000 := by omega); (have h1' : deep ≤ 3000 := by omega); clear h1 h2
  go_enter Try.func9, Try.ntmps9
  go_wp2_with fail
  go_loopg [5] l.length (fun g c wr => ∃ i, i ≤ l.length ∧ g = l.length - i ∧ c = .int .i64 (i : Nat) ∧ Hid (Below w.heap.size w wr))
  case atStart => exact ⟨0, by omega, by omega, rfl, Below.refl _ _⟩
  case round =>
    obtain ⟨i, hi, hg, rfl, HB⟩ := hrel; have HG : Hid (gk = l.length - i) := hg; clear hg; by_cases hlt : i < l.length
    · obtain ⟨⟨k2, n2, g2, ks2⟩, hki⟩ : ∃ f, l[i]? = some f := ⟨_, List.getElem?_eq_getElem hlt⟩
      obtain ⟨b, off, sl2, cap2, rfl, y0, y1, y2, y3, hr⟩ := (HX.out.up HB.out).at i k2 n2 g2 ks2 hki; (have hlt2 : (i : Int) < (l.length : Int) := by omega); (have hsz : Lm.sizes ks2 < m := by have := lsizes_get hki; rw [Lm.size] at this; omega); (have HI : Hid (Calls Try.prog 9 #[.slice sl2 ks2.length cap2, .int .i64 (deep + 1)] wr _) := ih ks2 _ (deep + 1) wr hsz (by omega) (by omega) hr.kidsL); clear hki hr y0 y1 y2; go_wp2_with fail; refine HI.out.mono ?_; rintro e w1 ⟨⟨bb, rfl⟩, hb1⟩
      cases bb
      · go_wp2_with fail
        go_roundg (l.length - (i + 1))
        case measure => have := HG.out; omega
        case rel => exact ⟨i + 1, by omega, rfl, by go_num, below_join HB.out hb1⟩
      · go_wp2_with fail
        go_ret; exact ⟨⟨_, rfl⟩, below_join HB.out hb1⟩
    · go_wp2_with fail
      go_ret; exact ⟨⟨_, rfl⟩, HB.out⟩
theorem vastsL_all : ∀ m, VastsL m
  | 0 => fun _ _ _ _ h => absurd h (Nat.not_lt_zero _)
  | m + 1 => vastL_step m (vastsL_all m)
theorem vastLinear_any (l : List Lm) (v : Value) (w : World) (hv : LL w v l) :
    Calls Try.prog 9 #[v, .int .i64 0] w fun e w' => IsB e ∧ Below w.heap.size w w' :=
  vastsL_all (Lm.sizes l + 1) l v 0 w (Nat.lt_succ_self _) (by omega) (by omega) hv
end Go.Proofs.Ytealalhgkdlmkai
