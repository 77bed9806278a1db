/- Texts of one proof, one behind the other: Free7. -/
import Derived.Test.YtheiikkeelbjnajGreatB01
/- A region that draws its order, whatever its operations write: what is known is told by a state of one's own that each operation moves on. -/
namespace Go.Proofs.YtheiikkeelbjnajGreat
open Go.RowKit

/-- Operation i is done, too. -/
def upd (L : Nat → Bool) (i : Nat) : Nat → Bool := fun j => j == i || L j
/-- While operation i is not done, no one has written slot d. -/
def freeSlot (ops : Array Oper) (i d : Nat) : Bool := (List.range ops.size).all fun k => match ops[k]? with | some o => o.dst != some d || k == i || waits .any o i | none => true
theorem not_yet {a b : Bool} (h : a = false) (hi : b = true → a = true) : b = false := by
  cases b
  · rfl
  · rw [hi rfl] at h; cases h
section
variable {P : Program} {ops : Array Oper} {Q : Exit → Act → World → Prop} {a0 : Act} {W : World} {G : Type}
/-- Facts, by the state. -/
abbrev FactG (G : Type) := G → Value → World → Prop
def factG (phi : List (FactG G)) (i : Nat) : FactG G := phi.getD i fun _ _ _ => True
structure WayG (ops : Array Oper) (phi : List (FactG G)) (live : (Nat → Bool) → Nat → Bool) (St : (Nat → Bool) → G → World → Prop) (a0 : Act) (L : Nat → Bool) (g : G) (a : Act) (w : World) : Prop where
  st : St L g w
  size : a.tmps.size = a0.tmps.size
  defers : a.defers = a0.defers
  old : ∀ d, (∀ k o, ops[k]? = some o → L k = true → o.dst ≠ some d) → a.tmps[d]? = a0.tmps[d]?
  got : ∀ i o d, ops[i]? = some o → L i = true → o.dst = some d → ∃ v, a.tmps[d]? = some v ∧ (live L i = true → factG phi i g v w)
  fits : ∀ o d, o ∈ ops.toList → o.dst = some d → d < a0.tmps.size
  closed : ∀ i o, ops[i]? = some o → L i = true → ∀ j, waits .any o j = true → L j = true
/-- What is to be shown of one operation. -/
def StepG (P : Program) (ops : Array Oper) (Q : Exit → Act → World → Prop) (phi : List (FactG G)) (live : (Nat → Bool) → Nat → Bool) (St : (Nat → Bool) → G → World → Prop) (a0 : Act) (i : Nat) (o : Oper) : Prop :=
  ∀ (L : Nat → Bool) (g : G) a w, St L g w → L i = false → (∀ j, waits .any o j = true → L j = true) → (∀ k o', ops[k]? = some o' → L k = true → ∀ j, waits .any o' j = true → L j = true) → (∀ d, freeSlot ops i d = true → a.tmps[d]? = a0.tmps[d]?) →
    (∀ j, waits .any o j = true → ∀ o' d, ops[j]? = some o' → o'.dst = some d → ∃ v, a.tmps[d]? = some v ∧ (live L j = true → factG phi j g v w)) →
    ∀ K : Act → World → Prop, Hid (∀ v w' g', St (upd L i) g' w' → factG phi i g' v w' → (∀ j, L j = true → live (upd L i) j = true → live L j = true ∧ ∀ u, factG phi j g u w → factG phi j g' u w') → K (a.put o.dst v) w') → if Region.wanted o (yielded ops a.tmps) = true then Oper.wp P o a w K Q else K (a.put o.dst undef) w
def StepsG (P : Program) (ops : Array Oper) (Q : Exit → Act → World → Prop) (phi : List (FactG G)) (live : (Nat → Bool) → Nat → Bool) (St : (Nat → Bool) → G → World → Prop) (a0 : Act) : Nat → List Oper → Prop
  | _, [] => True
  | i, o :: os => StepG P ops Q phi live St a0 i o ∧ StepsG P ops Q phi live St a0 (i + 1) os
theorem StepsG.get {phi : List (FactG G)} {live : (Nat → Bool) → Nat → Bool} {St : (Nat → Bool) → G → World → Prop} : ∀ {i : Nat} {os : List Oper}, StepsG P ops Q phi live St a0 i os → ∀ (j : Nat) (o : Oper), os[j]? = some o → StepG P ops Q phi live St a0 (i + j) o
  | _, [], _, j, o, h => by simp at h
  | i, y :: os, hs, j, o, h => by
    cases j with
    | zero => simp at h; subst h; exact hs.1
    | succ j =>
      (have := StepsG.get hs.2 j o (by simpa using h))
      rwa [show i + 1 + j = i + (j + 1) by omega] at this
/-- **The region, whatever the order and whatever is written.** -/
theorem wp_region_gh {id : Nat} (hm : P.follows .mixedOrders = true) (ht : tidyOps ops = true) (hb : backOps ops = true) (N : Nat) (hN : a0.tmps.size = N) (hf : ops.toList.all (fun o => match o.dst with | some d => decide (d < N) | none => true) = true)
    (phi : List (FactG G)) (live : (Nat → Bool) → Nat → Bool) (St : (Nat → Bool) → G → World → Prop) (g0 : G) (h0 : ∀ w, Below W.heap.size W w → Below w.heap.size w W → St (fun _ => false) g0 w)
    (hs : StepsG P ops Q phi live St a0 0 ops.toList)
    (he : ∀ (L : Nat → Bool) (g : G) a w, (∀ i, i < ops.size → L i = true) → St L g w → a.tmps.size = a0.tmps.size → a.defers = a0.defers → (∀ d, (ops.toList.all fun o => o.dst != some d) = true → a.tmps[d]? = a0.tmps[d]?) → (∀ i o d, ops[i]? = some o → o.dst = some d → ∃ v, a.tmps[d]? = some v ∧ (live L i = true → factG phi i g v w)) → Q .normal a w) : (Code.region id ops true).wp P Q a0 W := by
  have main : ∀ (fuel : Nat) (listed : Array Bool) (a : Act) (w : World) (L : Nat → Bool) (g : G), listed.size = ops.size → (∀ i, i < ops.size → listed.getD i false = L i) → unl listed.toList ≤ fuel → WayG ops phi live St a0 L g a w → wpAny P .any ops Q fuel listed a w := by
    have hend : ∀ (listed : Array Bool) (a : Act) (w : World) (L : Nat → Bool) (g : G), listed.size = ops.size → (∀ i, i < ops.size → listed.getD i false = L i) → WayG ops phi live St a0 L g a w → Region.ready .any ops listed = [] → Q .normal a w := fun listed a w L g hsz hL hw hr => by
      have hall : ∀ i, i < ops.size → L i = true := fun i hi => by
        rw [← hL i hi]; exact all_listed hb hsz hr (i + 1) i (Nat.lt_succ_self _) hi
      (refine he L g a w hall hw.st hw.size hw.defers (fun d hd => hw.old d fun k o hk _ => ?_) fun i o d hi hd => hw.got i o d hi (hall i (Array.getElem?_eq_some_iff.1 hi).1) hd); have := List.all_eq_true.1 hd o (Array.mem_toList_iff.2 (Array.mem_of_getElem? hk)); simpa using this
    intro fuel
    induction fuel with
    | zero =>
      intro listed a w L g hsz hL hu hw
      have hr : Region.ready .any ops listed = [] := by
        rw [List.eq_nil_iff_forall_not_mem]; intro i hi; obtain ⟨h0, o, ho, -⟩ := mem_ready.1 hi; have hlt := (Array.getElem?_eq_some_iff.1 ho).1
        have h1 : listed.toList[i]? = some false := by
          (rw [Array.getElem?_toList, Array.getElem?_eq_getElem (by omega)]); (rw [Array.getD_eq_getD_getElem?, Array.getElem?_eq_getElem (by omega)] at h0); simpa using h0
        have := unl_set _ _ h1; omega
      exact ⟨hr, hend listed a w L g hsz hL hw hr⟩
    | succ fuel ih =>
      intro listed a w L g hsz hL hu hwy; (refine ⟨hend listed a w L g hsz hL hwy, fun i hi => ?_⟩); obtain ⟨h0, o, ho, hdep⟩ := mem_ready.1 hi; have hlt := (Array.getElem?_eq_some_iff.1 ho).1
      have h1 : listed.toList[i]? = some false := by
        (rw [Array.getElem?_toList, Array.getElem?_eq_getElem (by omega)]); (rw [Array.getD_eq_getD_getElem?, Array.getElem?_eq_getElem (by omega)] at h0); simpa using h0
      have hu' := unl_set _ _ h1
      have hLi : L i = false := by
        rw [← hL i hlt]; (rw [Array.getD_eq_getD_getElem?, Array.getElem?_eq_getElem (by omega)] at h0 ⊢); simpa using h0
      have hdl : ∀ j, waits .any o j = true → L j = true := fun j hwj => by
        unfold waits at hwj; rw [List.any_eq_true] at hwj; obtain ⟨e, hk, hk2⟩ := hwj; rw [Bool.and_eq_true, beq_iff_eq] at hk2; have h9 := hdep e (Array.mem_toList_iff.1 hk) hk2.1; rw [hk2.2] at h9
        have hjl : j < ops.size := by
          rcases Nat.lt_or_ge j ops.size with h3 | h3
          · exact h3
          · rw [Array.getD_eq_getD_getElem?, Array.getElem?_eq_none (by omega)] at h9; cases h9
        rw [← hL j hjl]; exact h9
      have hnk : ∀ k o', ops[k]? = some o' → waits .any o' i = true → L k = false := fun k o' hk hwk => by
        cases hLk : L k with
        | false => rfl
        | true =>
          have := hwy.closed k o' hk hLk i hwk; rw [hLi] at this
          cases this
      have hok : StepG P ops Q phi live St a0 i o := by
        (have := hs.get i o (by rw [Array.getElem?_toList]; exact ho))
        rwa [Nat.zero_add] at this
      have hstep := hok L g a w hwy.st hLi hdl hwy.closed (fun d hd => hwy.old d fun k o' hk hLk e => by
          unfold freeSlot at hd; have := List.all_eq_true.1 hd k (List.mem_range.2 (Array.getElem?_eq_some_iff.1 hk).1); rw [hk] at this; simp only [e] at this; rw [Bool.or_eq_true, Bool.or_eq_true] at this
          rcases this with (h | h) | h
          · simp at h
          · have : k = i := by simpa using h
            rw [this, hLi] at hLk
            cases hLk
          · rw [hnk k o' hk h] at hLk
            cases hLk) (fun j hj o' d hj' hd => hwy.got j o' d hj' (hdl j hj) hd) (wpAny P .any ops Q fuel (listed.setIfInBounds i true)) (fun v w' g' hst' hp hfr => by
        (refine ih _ _ _ (upd L i) g' (by simpa using hsz) (fun j hj => ?_) (by rw [Array.toList_setIfInBounds]; omega) ⟨hst', ?_, ?_, fun d hd => ?_, fun j o' d hj hlj hd => ?_, hwy.fits, fun j o' hj hlj k hk => ?_⟩)
        · unfold upd
          by_cases hij : j = i
          · subst hij
            simp [hsz, hlt]
          · rw [getD_set_ne false (fun e => hij e.symm), hL j hj]
            simp [hij]
        · cases hd : o.dst <;> simp [Act.put, hwy.size]
        · cases hd : o.dst <;> simp [Act.put, hwy.defers]
        · have hne : o.dst ≠ some d := hd i o ho (by simp [upd])
          (rw [← hwy.old d fun k o' hk hLk => hd k o' hk (by simp [upd, hLk])])
          cases hd' : o.dst with
          | none => rfl
          | some d' =>
            rw [hd'] at hne; (have hne : d' ≠ d := fun e => hne (by rw [e])); simp [Act.put, Array.getElem?_setIfInBounds_ne hne]
        · by_cases hji : j = i
          · subst hji
            rw [ho] at hj
            cases hj
            have hdl2 : d < a.tmps.size := by rw [hwy.size]; exact hwy.fits o d (by
              rw [Array.mem_toList_iff]; exact Array.mem_of_getElem? ho) hd
            (exact ⟨v, by rw [hd]; simp [Act.put, hdl2], fun _ => hp⟩)
          · have hLj : L j = true := by simpa [upd, hji] using hlj
            obtain ⟨u, hu1, hu2⟩ := hwy.got j o' d hj hLj hd; (refine ⟨u, ?_, fun hl => (hfr j hLj hl).2 u (hu2 (hfr j hLj hl).1)⟩)
            cases hd' : o.dst with
            | none => exact hu1
            | some d' =>
              (have hne : d' ≠ d := fun e => hji (tidy_spec ht hj ho hd (by rw [hd', e]))); simp [Act.put, Array.getElem?_setIfInBounds_ne hne, hu1]
        · by_cases hji : j = i
          · subst hji
            rw [ho] at hj
            cases hj
            simp [upd, hdl k hk]
          · have hLj : L j = true := by simpa [upd, hji] using hlj
            simp [upd, hwy.closed j o' hj hLj k hk])
      unfold wpOp; simp only [ho]
      split
      · rename_i hw1
        rw [if_pos hw1] at hstep; exact Or.inl hstep
      · rename_i hw1
        rw [if_neg hw1] at hstep; exact hstep
  (refine wp_region_any hm (main _ _ _ _ (fun _ => false) g0 (by simp) (fun i hi => by rw [Array.getD_eq_getD_getElem?]; simp [hi]) ?_ ⟨h0 _ ⟨rfl, rfl, rfl, Nat.le_refl _, fun _ _ => rfl⟩ ⟨rfl, rfl, rfl, Nat.le_refl _, fun _ _ => rfl⟩, rfl, rfl, fun _ _ => rfl, fun i o d _ h _ => (by cases h), ?_, fun i o _ h => (by cases h)⟩))
  · have : unl (Array.replicate ops.size false).toList ≤ (Array.replicate ops.size false).toList.length := List.countP_le_length
    simpa using this
  · intro o d ho hd
    have := List.all_eq_true.1 hf o ho; rw [hd] at this; rw [hN]; simpa using this
end
theorem row_same {l m : List Value} {lo n : Nat} (h : ∀ t, lo ≤ t → t < lo + n → l[t]? = m[t]?) : (l.drop lo).take n = (m.drop lo).take n := by
  apply List.ext_getElem?; intro t
  rcases Nat.lt_or_ge t n with ht | ht
  · rw [List.getElem?_take_of_lt ht, List.getElem?_take_of_lt ht, List.getElem?_drop, List.getElem?_drop]
    (exact h _ (by omega) (by omega))
  · rw [List.getElem?_eq_none (by rw [List.length_take]; omega), List.getElem?_eq_none (by rw [List.length_take]; omega)]
/-- A frame behind a drawn region whose slots lie in two rows. -/
theorem frame_two {ops : Array Oper} {tm : Array Value} {df : List Deferred} {a0 : Act} (lo n mid n2 a1 a2 a3 : Nat) (e1 : lo + n = a1) (e2 : a1 + mid = a2) (e3 : a2 + n2 = a3) (hin : (ops.toList.all fun o => match o.dst with | some d => decide ((lo ≤ d ∧ a1 > d) ∨ (a2 ≤ d ∧ a3 > d)) | none => true) = true) (hlen : a3 ≤ a0.tmps.size) (h : OldSlots ops a0 ⟨tm, df⟩) : ∃ ys zs : List Value, ys.length = n ∧ zs.length = n2 ∧ tm = ⟨a0.tmps.toList.take lo ++ (ys ++ ((a0.tmps.toList.drop a1).take mid ++ (zs ++ a0.tmps.toList.drop a3)))⟩ ∧ df = a0.defers := by
  obtain ⟨h1, h2, h3⟩ := h; have h1' : tm.toList.length = a0.tmps.toList.length := h1; have hl : a3 ≤ a0.tmps.toList.length := hlen
  have old : ∀ t, (t < lo ∨ (a1 ≤ t ∧ t < a2) ∨ a3 ≤ t) → tm.toList[t]? = a0.tmps.toList[t]? := fun t ht => by
    have := h3 t (by
      rw [List.all_eq_true] at hin ⊢; intro o ho; have := hin o ho
      cases hd : o.dst with
      | none => rfl
      | some d =>
        rw [hd] at this; have := of_decide_eq_true this; (refine bne_iff_ne.2 fun e => ?_); have e2 : d = t := Option.some.inj e; subst e2
        omega)
    simpa using this
  (refine ⟨(tm.toList.drop lo).take n, (tm.toList.drop a2).take n2, by rw [List.length_take, List.length_drop]; omega, by rw [List.length_take, List.length_drop]; omega, ?_, h2⟩); apply Array.ext'
  have p1 : tm.toList.take lo = a0.tmps.toList.take lo := by
    (have := row_same (l := tm.toList) (m := a0.tmps.toList) (lo := 0) (n := lo) fun t _ ht => old t (by omega)); simpa using this
  (have p2 : (tm.toList.drop a1).take mid = (a0.tmps.toList.drop a1).take mid := row_same fun t h5 h6 => old t (by omega))
  have p3 : tm.toList.drop a3 = a0.tmps.toList.drop a3 := by
    (have := row_same (l := tm.toList) (m := a0.tmps.toList) (lo := a3) (n := tm.toList.length) fun t h5 _ => old t (by omega))
    rwa [List.take_of_length_le (by rw [List.length_drop]; omega), List.take_of_length_le (by rw [List.length_drop]; omega)] at this
  show tm.toList = _; rw [← p1, ← p2, ← p3]
  conv => lhs; rw [← List.take_append_drop lo tm.toList]
  congr 1
  conv => lhs; rw [← List.take_append_drop n (tm.toList.drop lo)]
  congr 1
  rw [List.drop_drop, e1]
  conv => lhs; rw [← List.take_append_drop mid (tm.toList.drop a1)]
  congr 1
  rw [List.drop_drop, e2]
  conv => lhs; rw [← List.take_append_drop n2 (tm.toList.drop a2)]
  congr 1
  rw [List.drop_drop, e3]
end Go.Proofs.YtheiikkeelbjnajGreat
