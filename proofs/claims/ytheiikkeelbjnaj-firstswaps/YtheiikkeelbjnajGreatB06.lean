/- Texts of one proof, one behind the other: FreeE. -/
import Derived.Test.YtheiikkeelbjnajGreatB01
/- A region that draws its order, with a last operation that waits for all others, by way of others. -/
namespace Go.Proofs.YtheiikkeelbjnajGreat
open Go.RowKit
section
variable {P : Program} {ops : Array Oper} {Q : Exit → Act → World → Prop} {a0 : Act} {W : World}

/-- What is listed is closed: what it waits for is listed. -/
def Clo (ops : Array Oper) (listed : Array Bool) : Prop := ∀ i o, ops[i]? = some o → listed.getD i false = true → ∀ j, waits .any o j = true → listed.getD j false = true
theorem Clo.reach {listed : Array Bool} (h : Clo ops listed) : ∀ (n i j : Nat), listed.getD i false = true → reachB ops n i j = true → listed.getD j false = true
  | 0, i, j, hi, hr => by
    unfold reachB at hr
    cases ho : ops[i]? with
    | none => rw [ho] at hr; cases hr
    | some o => rw [ho] at hr; exact h i o ho hi j hr
  | n + 1, i, j, hi, hr => by
    unfold reachB at hr
    cases ho : ops[i]? with
    | none => rw [ho] at hr; cases hr
    | some o =>
      rw [ho] at hr
      rcases Bool.or_eq_true_iff.1 hr with h1 | h1
      · exact h i o ho hi j h1
      · obtain ⟨k, -, hk⟩ := List.any_eq_true.1 h1
        obtain ⟨hk1, hk2⟩ := Bool.and_eq_true_iff.1 hk; exact Clo.reach h n k j (h i o ho hi k hk1) hk2
theorem Clo.set {listed : Array Bool} (h : Clo ops listed) {i : Nat} {o : Oper} (ho : ops[i]? = some o) (hlt : i < listed.size) (hd : ∀ j, waits .any o j = true → listed.getD j false = true) : Clo ops (listed.setIfInBounds i true) := by
  have hset : ∀ q, listed.getD q false = true → (listed.setIfInBounds i true).getD q false = true := fun q hq => by
    by_cases hqi : i = q
    · subst hqi; simp [hlt]
    · rw [getD_set_ne false hqi]; exact hq
  intro j o' hj hlj q hq; by_cases hji : i = j
  · subst hji
    rw [ho] at hj
    cases hj
    exact hset q (hd q hq)
  · rw [getD_set_ne false hji] at hlj
    exact hset q (h j o' hj hlj q hq)
/-- The same, with a last operation that waits for all others by way of others, and may write. -/
theorem wp_region_end {id : Nat} (hm : P.follows .mixedOrders = true) (phi : List (Value → World → Prop)) (hst : ∀ p ∈ phi, Stays p) (ht : tidyOps ops = true) (hb : backOps ops = true) (N : Nat) (hN : a0.tmps.size = N) (hf : ops.toList.all (fun o => match o.dst with | some d => decide (d < N) | none => true) = true)
    (m : Nat) (ol : Oper) (hm1 : ops.size = m + 1) (hol : ops[m]? = some ol) (nn : Nat) (hw : ((List.range m).all fun j => waits .any ol j || (List.range m).any fun k => waits .any ol k && reachB ops nn k j) = true) (hs : StepsOk P ops Q phi a0 W 0 (ops.toList.take m))
    (he : ∀ a w, Below W.heap.size W w → OldSlots ops a0 a → (∀ i o d, i < m → ops[i]? = some o → o.dst = some d → ∃ v, a.tmps[d]? = some v ∧ phiAt phi i v w) → ∀ K : Act → World → Prop, Hid (∀ a' w', Q .normal a' w' → K a' w') → if Region.wanted ol (yielded ops a.tmps) = true then Oper.wp P ol a w K Q else K (a.put ol.dst undef) w) : (Code.region id ops true).wp P Q a0 W := by
  have hst' : ∀ i, Stays (phiAt phi i) := fun i => by
    unfold phiAt; rw [List.getD_eq_getElem?_getD]
    rcases Nat.lt_or_ge i phi.length with h | h
    · rw [List.getElem?_eq_getElem h]
      exact hst _ (List.getElem_mem h)
    · rw [List.getElem?_eq_none h]
      (exact fun _ _ _ _ _ => trivial)
  have done : ∀ (fuel : Nat) (listed : Array Bool) (a : Act) (w : World), Region.ready .any ops listed = [] → Q .normal a w → wpAny P .any ops Q fuel listed a w := fun fuel listed a w hr hq => by
    cases fuel with
    | zero => exact ⟨hr, hq⟩
    | succ fuel => exact ⟨fun _ => hq, fun i hi => by rw [hr] at hi; cases hi⟩
  have main : ∀ (fuel : Nat) (listed : Array Bool) (a : Act) (w : World), listed.size = ops.size → unl listed.toList ≤ fuel → listed.getD m true = false → Clo ops listed → Way ops phi a0 W listed a w → wpAny P .any ops Q fuel listed a w := by
    have hend : ∀ (listed : Array Bool) (a : Act) (w : World), listed.size = ops.size → listed.getD m true = false → Region.ready .any ops listed = [] → Q .normal a w := fun listed a w hsz hm0 hr => by
      (have := all_listed hb hsz hr (m + 1) m (Nat.lt_succ_self _) (by omega)); (rw [Array.getD_eq_getD_getElem?, Array.getElem?_eq_getElem (by omega)] at this hm0); simp at this hm0; rw [hm0] at this
      cases this
    intro fuel
    induction fuel with
    | zero =>
      intro listed a w hsz hu hmf _ hw
      have hr : Region.ready .any ops listed = [] := by
        rw [List.eq_nil_iff_forall_not_mem]; intro i hi; obtain ⟨h0, o, ho, -⟩ := mem_ready.1 hi; have hlt := (Array.getElem?_eq_some_iff.1 ho).1
        have h1 : listed.toList[i]? = some false := by
          (rw [Array.getElem?_toList, Array.getElem?_eq_getElem (by omega)]); (rw [Array.getD_eq_getD_getElem?, Array.getElem?_eq_getElem (by omega)] at h0); simpa using h0
        have := unl_set _ _ h1; omega
      exact ⟨hr, hend listed a w hsz hmf hr⟩
    | succ fuel ih =>
      intro listed a w hsz hu hmf hcl hwy; (refine ⟨hend listed a w hsz hmf, fun i hi => ?_⟩); obtain ⟨h0, o, ho, hdep⟩ := mem_ready.1 hi; have hlt := (Array.getElem?_eq_some_iff.1 ho).1
      have h1 : listed.toList[i]? = some false := by
        (rw [Array.getElem?_toList, Array.getElem?_eq_getElem (by omega)]); (rw [Array.getD_eq_getD_getElem?, Array.getElem?_eq_getElem (by omega)] at h0); simpa using h0
      have hu' := unl_set _ _ h1
      have hdir : ∀ j, waits .any o j = true → listed.getD j false = true := fun j hwj => by
        unfold waits at hwj; rw [List.any_eq_true] at hwj; obtain ⟨e, hk, hk2⟩ := hwj; rw [Bool.and_eq_true, beq_iff_eq] at hk2; have := hdep e (Array.mem_toList_iff.1 hk) hk2.1
        rwa [hk2.2] at this
      by_cases him : i = m
      · subst him
        rw [hol] at ho
        cases ho
        have hall : ∀ j, j < i → listed.getD j false = true := fun j hj => by
          rcases Bool.or_eq_true_iff.1 (List.all_eq_true.1 hw j (List.mem_range.2 hj)) with h1 | h1
          · exact hdir j h1
          · obtain ⟨k, -, hk⟩ := List.any_eq_true.1 h1
            obtain ⟨hk1, hk2⟩ := Bool.and_eq_true_iff.1 hk; exact hcl.reach nn k j (hdir k hk1) hk2
        have hnone : Region.ready .any ops (listed.setIfInBounds i true) = [] := by
          rw [List.eq_nil_iff_forall_not_mem]; intro j hj; obtain ⟨g0, o', ho', -⟩ := mem_ready.1 hj; have hjl := (Array.getElem?_eq_some_iff.1 ho').1; by_cases hji : i = j
          · subst hji
            simp [hsz, hlt] at g0
          · rw [getD_set_ne true hji] at g0
            (have := hall j (by omega)); (rw [Array.getD_eq_getD_getElem?, Array.getElem?_eq_getElem (by omega)] at this g0); simp at this g0; rw [g0] at this
            cases this
        (have hstep := he a w hwy.below hwy.old (fun j o' d hj hoj hd => hwy.got j o' d hoj (hall j hj) hd) (wpAny P .any ops Q fuel (listed.setIfInBounds i true)) (fun a' w' hq => done _ _ _ _ hnone hq)); unfold wpOp; simp only [hol]
        split
        · rename_i hw1
          rw [if_pos hw1] at hstep; exact Or.inl hstep
        · rename_i hw1
          rw [if_neg hw1] at hstep; exact hstep
      have hok : StepOk P ops Q phi a0 W i o := by
        (have := hs.get i o (by rw [List.getElem?_take_of_lt (by omega), Array.getElem?_toList]; exact ho))
        rwa [Nat.zero_add] at this
      have hstep := hok a w hwy.below hwy.old (fun j hj o' d hj' hd => hwy.got j o' d hj' (by
        unfold waits at hj; rw [List.any_eq_true] at hj; obtain ⟨e, hk, hk2⟩ := hj; rw [Bool.and_eq_true, beq_iff_eq] at hk2; have := hdep e (Array.mem_toList_iff.1 hk) hk2.1
        rwa [hk2.2] at this) hd) (wpAny P .any ops Q fuel (listed.setIfInBounds i true)) (fun v w' hp hbw => by
        (refine ih _ _ _ (by simpa using hsz) (by rw [Array.toList_setIfInBounds]; omega) (by rw [getD_set_ne true him]; exact hmf) (hcl.set ho (by omega) hdir) ?_); (have hbel : Below W.heap.size W w' := hwy.below.trans (hbw.mono (by have := hwy.below.size; exact this))); refine ⟨hbel, ?_, ?_, hwy.fits⟩
        · obtain ⟨o1, o2, o3⟩ := hwy.old
          (refine ⟨?_, ?_, fun t ht' => ?_⟩)
          · cases hd : o.dst <;> simp [Act.put, o1]
          · cases hd : o.dst <;> simp [Act.put, o2]
          · rw [← o3 t ht']
            cases hd : o.dst with
            | none => rfl
            | some d =>
              have hne : d ≠ t := fun e => by
                have := List.all_eq_true.1 ht' o (Array.mem_toList_iff.2 (Array.mem_of_getElem? ho)); rw [hd, e] at this; simp at this
              simp [Act.put, Array.getElem?_setIfInBounds_ne hne]
        · intro j o' d hj hlj hd
          by_cases hji : i = j
          · subst hji
            rw [ho] at hj
            cases hj
            have hdl : d < a.tmps.size := by rw [hwy.old.1]; exact hwy.fits o d (by
              rw [Array.mem_toList_iff]; exact Array.mem_of_getElem? ho) hd
            (exact ⟨v, by rw [hd]; simp [Act.put, hdl], hp⟩)
          · rw [getD_set_ne false hji] at hlj
            obtain ⟨u, hu1, hu2⟩ := hwy.got j o' d hj hlj hd; refine ⟨u, ?_, hst' j u w w' hu2 hbw⟩
            cases hd' : o.dst with
            | none => exact hu1
            | some d' =>
              (have hne : d' ≠ d := fun e => hji (tidy_spec ht ho hj (by rw [hd', e]) hd))
              simp [Act.put, Array.getElem?_setIfInBounds_ne hne, hu1])
      unfold wpOp; simp only [ho]
      split
      · rename_i hw1
        rw [if_pos hw1] at hstep; exact Or.inl hstep
      · rename_i hw1
        rw [if_neg hw1] at hstep; exact hstep
  (refine wp_region_any hm (main _ _ _ _ (by simp) ?_ (by simp [hm1]) ?_ ⟨?_, ⟨rfl, rfl, fun _ _ => rfl⟩, ?_, ?_⟩))
  · have : unl (Array.replicate ops.size false).toList ≤ (Array.replicate ops.size false).toList.length := List.countP_le_length
    simpa using this
  · intro i _ _ h
    rw [Array.getD_eq_getD_getElem?] at h
    rcases Nat.lt_or_ge i ops.size with h1 | h1
    · simp [h1] at h
    · simp [Nat.not_lt.2 h1] at h
  · exact ⟨rfl, rfl, rfl, Nat.le_refl _, fun _ _ => rfl⟩
  · intro i o d _ h _
    rw [Array.getD_eq_getD_getElem?] at h
    rcases Nat.lt_or_ge i ops.size with h1 | h1
    · simp [h1] at h
    · simp [Nat.not_lt.2 h1] at h
  · intro o d ho hd
    have := List.all_eq_true.1 hf o ho; rw [hd] at this; rw [hN]; simpa using this
end
end Go.Proofs.YtheiikkeelbjnajGreat
