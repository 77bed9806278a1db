/- Texts of one proof, one behind the other: KM5, KM6, KM7, KM8, KYB, KY0. -/
import Derived.Test.YtalnljnincnbdacGreatB30
import Derived.Test.YtalnljnincnbdacGreatB19
import Derived.Test.YtalnljnincnbdacGreatB11
import Derived.Test.YtalnljnincnbdacGreatB12
import Derived.Test.YtalnljnincnbdacGreatB29
import Derived.Test.YtalnljnincnbdacGreatB14
import Derived.Test.YtalnljnincnbdacGreatB31
/- What the writer writes, as data: a step's premises are the sides of what is left and of what comes. -/
namespace Go.Proofs.YtalnljnincnbdacGreat

theorem sideL_app (fs : List Fm) (a b : List Nat) : sideL fs (a ++ b) = sideL fs a ++ sideL fs b := by simp [sideL]
theorem sideR_app (fs : List Fm) (a b : List Nat) : sideR fs (a ++ b) = sideR fs a ++ sideR fs b := by simp [sideR]
theorem sideL_perm {fs : List Fm} {a b : List Nat} (h : a.Perm b) : (sideL fs a).Perm (sideL fs b) := (h.filter _).map _
theorem sideR_perm {fs : List Fm} {a b : List Nat} (h : a.Perm b) : (sideR fs a).Perm (sideR fs b) := (h.filter _).map _
theorem side_left {fs : List Fm} {is : List Nat} {i : Nat} (hi : i ∈ is) (hr : itR i = false) : itF fs i ∈ sideL fs is ∧ (sideL fs (is.erase i)).Perm ((sideL fs is).erase (itF fs i)) ∧ (sideR fs (is.erase i)).Perm (sideR fs is) := by
  have hp := List.perm_cons_erase hi; have h1 := sideL_perm (fs := fs) hp; have h2 := sideR_perm (fs := fs) hp; (have e1 : sideL fs (i :: is.erase i) = itF fs i :: sideL fs (is.erase i) := by simp [sideL, hr]); (have e2 : sideR fs (i :: is.erase i) = sideR fs (is.erase i) := by simp [sideR, hr]); rw [e1] at h1; rw [e2] at h2; refine ⟨h1.mem_iff.2 (List.mem_cons_self ..), ?_, h2.symm⟩; have := h1.erase (itF fs i); rw [List.erase_cons_head] at this; exact this.symm
theorem side_right {fs : List Fm} {is : List Nat} {i : Nat} (hi : i ∈ is) (hr : itR i = true) : itF fs i ∈ sideR fs is ∧ (sideR fs (is.erase i)).Perm ((sideR fs is).erase (itF fs i)) ∧ (sideL fs (is.erase i)).Perm (sideL fs is) := by
  have hp := List.perm_cons_erase hi; have h1 := sideR_perm (fs := fs) hp; have h2 := sideL_perm (fs := fs) hp; (have e1 : sideR fs (i :: is.erase i) = itF fs i :: sideR fs (is.erase i) := by simp [sideR, hr]); (have e2 : sideL fs (i :: is.erase i) = sideL fs (is.erase i) := by simp [sideL, hr]); rw [e1] at h1; rw [e2] at h2; refine ⟨h1.mem_iff.2 (List.mem_cons_self ..), ?_, h2.symm⟩; have := h1.erase (itF fs i); rw [List.erase_cons_head] at this; exact this.symm
theorem sides_of (fs : List Fm) (n : Nat) : sideL fs [2 * n] = [fs.getD n zeroF] ∧ sideR fs [2 * n] = [] ∧ sideL fs [2 * n + 1] = [] ∧ sideR fs [2 * n + 1] = [fs.getD n zeroF] := by
  have h1 := itR_two n; have h2 := itF_two fs n; simp [sideL, sideR, h1.1, h1.2, h2.1, h2.2]
theorem sides_two (fs : List Fm) (i j : Nat) : sideL fs [i, j] = sideL fs [i] ++ sideL fs [j] ∧ sideR fs [i, j] = sideR fs [i] ++ sideR fs [j] := ⟨sideL_app fs [i] [j], sideR_app fs [i] [j]⟩
/-- A step by a way: its rule, and its premises, as the calculus has them. -/
theorem way_prem {ps : List PartM} {fs : List Fm} (h : TabOk ps fs) {i : Nat} {p : PartM} (hp : ps[i / 2]? = some p) (hpl : Pl (fs.getD (i / 2) zeroF)) (is : List Nat) (hi : i ∈ is) (hne : (wayOf ps i).2 ≠ []) :
    ∃ q ss, ruleOf false (wayOf ps i).1 = some q ∧ (wayOf ps i).1 ≠ weakT ∧ (wayOf ps i).1 ≠ Ru.cut.text ∧ prem false q (itF fs i) (sideL fs is) (sideR fs is) = some ss ∧ ss.length = (wayOf ps i).2.length ∧ ∀ (j : Nat) (pr : List Nat) (s : List Fm × List Fm), (wayOf ps i).2[j]? = some pr → ss[j]? = some s → (sideL fs (is.erase i ++ pr)).Perm s.1 ∧ (sideR fs (is.erase i ++ pr)).Perm s.2 := by
  have hw : wayOf ps i = if itR i then wayR p.kind p.k0 p.k1 else wayL p.kind p.k0 p.k1 := by
    unfold wayOf; rw [hp]
  have hf : itF fs i = fs.getD (i / 2) zeroF := rfl; have hforms := part_forms h hp hpl; rw [← hf] at hforms; rw [hw] at hne ⊢; clear hw hf hpl h hp
  cases hr : itR i
  · obtain ⟨hm, hA, hB⟩ := side_left (fs := fs) hi hr
    simp only [hr, Bool.false_eq_true, if_false] at hne ⊢
    rcases hforms with ⟨hk, -⟩ | ⟨hk, -⟩ | ⟨hk, -⟩ | ⟨hk, a, hks, -, hf, -⟩ | ⟨hk, a, b, hks, -, -, hf, -⟩
    · rw [hk] at hne
      exact absurd rfl hne
    · rw [hk] at hne
      exact absurd rfl hne
    · rw [hk] at hne
      exact absurd rfl hne
    · have e0 : p.k0 = a := by unfold PartM.k0; rw [hks]; rfl
      rw [hk, e0]; clear hne e0 hks hk; have ew : wayL 4 a p.k1 = (Ru.text .notL, [[2 * a + 1]]) := rfl; rw [ew]; (have hkd : (itF fs i).kind = 4 := by rw [hf]; rfl); (have hka : (itF fs i).kidA = fs.getD a zeroF := by rw [hf]; rfl); (refine ⟨.notL, [((sideL fs is).erase (itF fs i), sideR fs is ++ [(fs.getD a zeroF)])], (show ruleOf false (Ru.text .notL) = some .notL by decide), (show Ru.text .notL ≠ weakT by decide), (show Ru.text .notL ≠ Ru.cut.text by decide), ?_, rfl, ?_⟩)
      · unfold prem
        simp only [hkd, hm, hka, and_self, if_true, Bool.false_eq_true, if_false]
      · intro j pr s h1 h2
        match j, h1, h2 with
        | 0, h1, h2 =>
          simp only [List.getElem?_cons_zero, Option.some.injEq] at h1 h2; subst h1 h2; simp only [sideL_app, sideR_app, sides_of, List.append_nil]
          first | exact ⟨hA.append_right _, hB⟩ | exact ⟨hA, hB.append_right _⟩ | exact ⟨hA.append_right _, hB.append_right _⟩ | exact ⟨hA, hB⟩
        | j + 1, h1, h2 => simp at h1
    · have e0 : p.k0 = a := by unfold PartM.k0; rw [hks]; rfl
      (have e1 : p.k1 = b := by unfold PartM.k1; rw [hks]; rfl); rw [e0, e1]; clear hne e0 e1 hks
      rcases hk with hk | hk | hk
      · rw [hk] at hf ⊢
        clear hk; have ew : wayL 5 a b = (Ru.text .andL, [[2 * a, 2 * b]]) := rfl; rw [ew]; (have hkd : (itF fs i).kind = 5 := by rw [hf]; rfl); (have hka : (itF fs i).kidA = fs.getD a zeroF := by rw [hf]; rfl); (have hkb : (itF fs i).kidB = fs.getD b zeroF := by rw [hf]; rfl); (refine ⟨.andL, [((sideL fs is).erase (itF fs i) ++ [(fs.getD a zeroF), (fs.getD b zeroF)], sideR fs is)], (show ruleOf false (Ru.text .andL) = some .andL by decide), (show Ru.text .andL ≠ weakT by decide), (show Ru.text .andL ≠ Ru.cut.text by decide), ?_, rfl, ?_⟩)
        · unfold prem
          simp only [hkd, hm, hka, hkb, and_self, if_true]
        · intro j pr s h1 h2
          match j, h1, h2 with
          | 0, h1, h2 =>
            simp only [List.getElem?_cons_zero, Option.some.injEq] at h1 h2; subst h1 h2; simp only [sideL_app, sideR_app, sides_two, sides_of, List.append_nil, List.cons_append, List.nil_append]
            first | exact ⟨hA.append_right _, hB⟩ | exact ⟨hA, hB.append_right _⟩ | exact ⟨hA.append_right _, hB.append_right _⟩ | exact ⟨hA, hB⟩
          | j + 1, h1, h2 => simp at h1
      · rw [hk] at hf ⊢
        clear hk; have ew : wayL 6 a b = (Ru.text .orL, [[2 * a], [2 * b]]) := rfl; rw [ew]; (have hkd : (itF fs i).kind = 6 := by rw [hf]; rfl); (have hka : (itF fs i).kidA = fs.getD a zeroF := by rw [hf]; rfl); (have hkb : (itF fs i).kidB = fs.getD b zeroF := by rw [hf]; rfl); (refine ⟨.orL, [((sideL fs is).erase (itF fs i) ++ [(fs.getD a zeroF)], sideR fs is), ((sideL fs is).erase (itF fs i) ++ [(fs.getD b zeroF)], sideR fs is)], (show ruleOf false (Ru.text .orL) = some .orL by decide), (show Ru.text .orL ≠ weakT by decide), (show Ru.text .orL ≠ Ru.cut.text by decide), ?_, rfl, ?_⟩)
        · unfold prem
          simp only [hkd, hm, hka, hkb, and_self, if_true]
        · intro j pr s h1 h2
          match j, h1, h2 with
          | 0, h1, h2 =>
            simp only [List.getElem?_cons_zero, Option.some.injEq] at h1 h2; subst h1 h2; simp only [sideL_app, sideR_app, sides_of, List.append_nil]
            first | exact ⟨hA.append_right _, hB⟩ | exact ⟨hA, hB.append_right _⟩ | exact ⟨hA.append_right _, hB.append_right _⟩ | exact ⟨hA, hB⟩
          | 1, h1, h2 =>
            simp only [List.getElem?_cons_zero, List.getElem?_cons_succ, Option.some.injEq] at h1 h2; subst h1 h2; simp only [sideL_app, sideR_app, sides_of, List.append_nil]
            first | exact ⟨hA.append_right _, hB⟩ | exact ⟨hA, hB.append_right _⟩ | exact ⟨hA.append_right _, hB.append_right _⟩ | exact ⟨hA, hB⟩
          | j + 2, h1, h2 => simp at h1
      · rw [hk] at hf ⊢
        clear hk; have ew : wayL 7 a b = (Ru.text .thenL, [[2 * a + 1], [2 * b]]) := rfl; rw [ew]; (have hkd : (itF fs i).kind = 7 := by rw [hf]; rfl); (have hka : (itF fs i).kidA = fs.getD a zeroF := by rw [hf]; rfl); (have hkb : (itF fs i).kidB = fs.getD b zeroF := by rw [hf]; rfl); (refine ⟨.thenL, [((sideL fs is).erase (itF fs i), sideR fs is ++ [(fs.getD a zeroF)]), ((sideL fs is).erase (itF fs i) ++ [(fs.getD b zeroF)], sideR fs is)], (show ruleOf false (Ru.text .thenL) = some .thenL by decide), (show Ru.text .thenL ≠ weakT by decide), (show Ru.text .thenL ≠ Ru.cut.text by decide), ?_, rfl, ?_⟩)
        · unfold prem
          simp only [hkd, hm, hka, hkb, and_self, if_true, Bool.false_eq_true, if_false]
        · intro j pr s h1 h2
          match j, h1, h2 with
          | 0, h1, h2 =>
            simp only [List.getElem?_cons_zero, Option.some.injEq] at h1 h2; subst h1 h2; simp only [sideL_app, sideR_app, sides_of, List.append_nil]
            first | exact ⟨hA.append_right _, hB⟩ | exact ⟨hA, hB.append_right _⟩ | exact ⟨hA.append_right _, hB.append_right _⟩ | exact ⟨hA, hB⟩
          | 1, h1, h2 =>
            simp only [List.getElem?_cons_zero, List.getElem?_cons_succ, Option.some.injEq] at h1 h2; subst h1 h2; simp only [sideL_app, sideR_app, sides_of, List.append_nil]
            first | exact ⟨hA.append_right _, hB⟩ | exact ⟨hA, hB.append_right _⟩ | exact ⟨hA.append_right _, hB.append_right _⟩ | exact ⟨hA, hB⟩
          | j + 2, h1, h2 => simp at h1
  · obtain ⟨hm, hB, hA⟩ := side_right (fs := fs) hi hr
    simp only [hr, if_true] at hne ⊢
    rcases hforms with ⟨hk, -⟩ | ⟨hk, -⟩ | ⟨hk, -⟩ | ⟨hk, a, hks, -, hf, -⟩ | ⟨hk, a, b, hks, -, -, hf, -⟩
    · rw [hk] at hne
      exact absurd rfl hne
    · rw [hk] at hne
      exact absurd rfl hne
    · rw [hk] at hne
      exact absurd rfl hne
    · have e0 : p.k0 = a := by unfold PartM.k0; rw [hks]; rfl
      rw [hk, e0]; clear hne e0 hks hk; have ew : wayR 4 a p.k1 = (Ru.text .notR, [[2 * a]]) := rfl; rw [ew]; (have hkd : (itF fs i).kind = 4 := by rw [hf]; rfl); (have hka : (itF fs i).kidA = fs.getD a zeroF := by rw [hf]; rfl); (refine ⟨.notR, [(sideL fs is ++ [(fs.getD a zeroF)], (sideR fs is).erase (itF fs i))], (show ruleOf false (Ru.text .notR) = some .notR by decide), (show Ru.text .notR ≠ weakT by decide), (show Ru.text .notR ≠ Ru.cut.text by decide), ?_, rfl, ?_⟩)
      · unfold prem
        simp only [hkd, hm, hka, and_self, if_true]
      · intro j pr s h1 h2
        match j, h1, h2 with
        | 0, h1, h2 =>
          simp only [List.getElem?_cons_zero, Option.some.injEq] at h1 h2; subst h1 h2; simp only [sideL_app, sideR_app, sides_of, List.append_nil]
          first | exact ⟨hA.append_right _, hB⟩ | exact ⟨hA, hB.append_right _⟩ | exact ⟨hA.append_right _, hB.append_right _⟩ | exact ⟨hA, hB⟩
        | j + 1, h1, h2 => simp at h1
    · have e0 : p.k0 = a := by unfold PartM.k0; rw [hks]; rfl
      (have e1 : p.k1 = b := by unfold PartM.k1; rw [hks]; rfl); rw [e0, e1]; clear hne e0 e1 hks
      rcases hk with hk | hk | hk
      · rw [hk] at hf ⊢
        clear hk; have ew : wayR 5 a b = (Ru.text .andR, [[2 * a + 1], [2 * b + 1]]) := rfl; rw [ew]; (have hkd : (itF fs i).kind = 5 := by rw [hf]; rfl); (have hka : (itF fs i).kidA = fs.getD a zeroF := by rw [hf]; rfl); (have hkb : (itF fs i).kidB = fs.getD b zeroF := by rw [hf]; rfl); (refine ⟨.andR, [(sideL fs is, (sideR fs is).erase (itF fs i) ++ [(fs.getD a zeroF)]), (sideL fs is, (sideR fs is).erase (itF fs i) ++ [(fs.getD b zeroF)])], (show ruleOf false (Ru.text .andR) = some .andR by decide), (show Ru.text .andR ≠ weakT by decide), (show Ru.text .andR ≠ Ru.cut.text by decide), ?_, rfl, ?_⟩)
        · unfold prem
          simp only [hkd, hm, hka, hkb, and_self, if_true]
        · intro j pr s h1 h2
          match j, h1, h2 with
          | 0, h1, h2 =>
            simp only [List.getElem?_cons_zero, Option.some.injEq] at h1 h2; subst h1 h2; simp only [sideL_app, sideR_app, sides_of, List.append_nil]
            first | exact ⟨hA.append_right _, hB⟩ | exact ⟨hA, hB.append_right _⟩ | exact ⟨hA.append_right _, hB.append_right _⟩ | exact ⟨hA, hB⟩
          | 1, h1, h2 =>
            simp only [List.getElem?_cons_zero, List.getElem?_cons_succ, Option.some.injEq] at h1 h2; subst h1 h2; simp only [sideL_app, sideR_app, sides_of, List.append_nil]
            first | exact ⟨hA.append_right _, hB⟩ | exact ⟨hA, hB.append_right _⟩ | exact ⟨hA.append_right _, hB.append_right _⟩ | exact ⟨hA, hB⟩
          | j + 2, h1, h2 => simp at h1
      · rw [hk] at hf ⊢
        clear hk; have ew : wayR 6 a b = (Ru.text .orR, [[2 * a + 1, 2 * b + 1]]) := rfl; rw [ew]; (have hkd : (itF fs i).kind = 6 := by rw [hf]; rfl); (have hka : (itF fs i).kidA = fs.getD a zeroF := by rw [hf]; rfl); (have hkb : (itF fs i).kidB = fs.getD b zeroF := by rw [hf]; rfl); (refine ⟨.orR, [(sideL fs is, (sideR fs is).erase (itF fs i) ++ [(fs.getD a zeroF), (fs.getD b zeroF)])], (show ruleOf false (Ru.text .orR) = some .orR by decide), (show Ru.text .orR ≠ weakT by decide), (show Ru.text .orR ≠ Ru.cut.text by decide), ?_, rfl, ?_⟩)
        · unfold prem
          simp only [hkd, hm, hka, hkb, and_self, if_true]
        · intro j pr s h1 h2
          match j, h1, h2 with
          | 0, h1, h2 =>
            simp only [List.getElem?_cons_zero, Option.some.injEq] at h1 h2; subst h1 h2; simp only [sideL_app, sideR_app, sides_two, sides_of, List.append_nil, List.cons_append, List.nil_append]
            first | exact ⟨hA.append_right _, hB⟩ | exact ⟨hA, hB.append_right _⟩ | exact ⟨hA.append_right _, hB.append_right _⟩ | exact ⟨hA, hB⟩
          | j + 1, h1, h2 => simp at h1
      · rw [hk] at hf ⊢
        clear hk; have ew : wayR 7 a b = (Ru.text .thenR, [[2 * a, 2 * b + 1]]) := rfl; rw [ew]; (have hkd : (itF fs i).kind = 7 := by rw [hf]; rfl); (have hka : (itF fs i).kidA = fs.getD a zeroF := by rw [hf]; rfl); (have hkb : (itF fs i).kidB = fs.getD b zeroF := by rw [hf]; rfl); (refine ⟨.thenR, [(sideL fs is ++ [(fs.getD a zeroF)], (sideR fs is).erase (itF fs i) ++ [(fs.getD b zeroF)])], (show ruleOf false (Ru.text .thenR) = some .thenR by decide), (show Ru.text .thenR ≠ weakT by decide), (show Ru.text .thenR ≠ Ru.cut.text by decide), ?_, rfl, ?_⟩)
        · unfold prem
          simp only [hkd, hm, hka, hkb, and_self, if_true]
        · intro j pr s h1 h2
          match j, h1, h2 with
          | 0, h1, h2 =>
            simp only [List.getElem?_cons_zero, Option.some.injEq] at h1 h2; subst h1 h2; simp only [sideL_app, sideR_app, sides_two, sides_of, List.append_nil, List.nil_append]
            first | exact ⟨hA.append_right _, hB⟩ | exact ⟨hA, hB.append_right _⟩ | exact ⟨hA.append_right _, hB.append_right _⟩ | exact ⟨hA, hB⟩
          | j + 1, h1, h2 => simp at h1
end Go.Proofs.YtalnljnincnbdacGreat
/- What the writer writes is a proof. -/
namespace Go.Proofs.YtalnljnincnbdacGreat

/-- What the writer makes of a plan, at this depth, for these items. -/
inductive WPf (ps : List PartM) (fs : List Fm) : Nat → Plan → List Nat → Pf → Prop
  | weak (d : Nat) (a : ByteArray) (ha : a.data.toList = weakT) (p : Plan) (is : List Nat) (k : Pf) (hd : d ≤ 400) (hl : is.length ≤ 60) (h : WPf ps fs (d + 1) p p.needs k) : WPf ps fs d p is (.mk a (.mk 0 ⟨#[]⟩ []) (sideL fs is) (sideR fs is) [k])
  | step (d : Nat) (a : ByteArray) (i : Nat) (needs : List Nat) (kids : List Plan) (is : List Nat) (ks : List Pf) (hd : d ≤ 400) (hl : is.length ≤ 60) (hlen : ks.length = kids.length)
      (hk : ∀ (j : Nat) (k : Plan) (q : Pf) (pr : List Nat), kids[j]? = some k → (wayOf ps i).2[j]? = some pr → ks[j]? = some q → WPf ps fs (d + 1) k (is.erase i ++ pr) q) : WPf ps fs d (.mk a i needs kids) is (.mk a (itF fs i) (sideL fs is) (sideR fs is) ks)
/-- Each step is one by its rule, none is a cut, none lies too deep. -/
inductive FineP : Nat → Pf → Prop
  | mk (d : Nat) (a : ByteArray) (f : Fm) (l r : List Fm) (ks : List Pf) (hd : d ≤ 400) (hs : stepC false (.mk a f l r ks) = 0) (hc : a.data.toList ≠ Ru.cut.text) (hk : ∀ k ∈ ks, FineP (d + 1) k) : FineP d (.mk a f l r ks)

theorem side_within {fs : List Fm} : ∀ {needs is : List Nat}, needs.Nodup → (∀ x ∈ needs, x ∈ is) → ∀ f, (sideL fs needs).count f ≤ (sideL fs is).count f ∧ (sideR fs needs).count f ≤ (sideR fs is).count f
  | [], _, _, _, f => by simp [sideL, sideR]
  | x :: needs, is, hn, hs, f => by
    have hx := hs x (List.mem_cons_self ..); have hp := List.perm_cons_erase hx; (have ih := side_within (fs := fs) (needs := needs) (is := is.erase x) (List.nodup_cons.1 hn).2 (fun y hy => (List.mem_erase_of_ne (fun e => (List.nodup_cons.1 hn).1 (by rw [← e]; exact hy))).2 (hs y (List.mem_cons_of_mem _ hy))) f); have h1 := (sideL_perm (fs := fs) hp).count_eq f; have h2 := (sideR_perm (fs := fs) hp).count_eq f; rw [h1, h2, show x :: needs = [x] ++ needs from rfl, show x :: is.erase x = [x] ++ is.erase x from rfl, sideL_app, sideL_app, sideR_app, sideR_app, List.count_append, List.count_append, List.count_append, List.count_append]; omega
theorem side_len (fs : List Fm) (is : List Nat) : (sideL fs is).length + (sideR fs is).length = is.length := by
  induction is with
  | nil => rfl
  | cons x is ih =>
    rw [show x :: is = [x] ++ is from rfl, sideL_app, sideR_app]
    cases h : itR x <;> simp [sideL, sideR, h] at ih ⊢ <;> omega
theorem side_code {fs : List Fm} {is : List Nat} (hl : is.length ≤ 60) (hf : ∀ i ∈ is, (itF fs i).pcode.1 = 0) : (seqCode (sideL fs is) (sideR fs is)).1 = 0 := by
  unfold seqCode; (rw [if_neg (by rw [side_len]; omega)]); (rw [firstBad_zero _ _ fun f h => ?_])
  rcases List.mem_append.1 h with h | h
  · obtain ⟨i, hi, rfl⟩ := List.mem_map.1 h
    exact hf i (List.mem_filter.1 hi).1
  · obtain ⟨i, hi, rfl⟩ := List.mem_map.1 h
    exact hf i (List.mem_filter.1 hi).1
theorem WPf.ends {ps : List PartM} {fs : List Fm} {d : Nat} {p : Plan} {is : List Nat} {P : Pf} (h : WPf ps fs d p is P) : P.l = sideL fs is ∧ P.r = sideR fs is := by
  cases h <;> exact ⟨rfl, rfl⟩
theorem kids_zero {ks : List Pf} {ss : List (List Fm × List Fm)} (h : ∀ (j : Nat) (k : Pf) (s : List Fm × List Fm), ks[j]? = some k → ss[j]? = some s → k.l.Perm s.1 ∧ k.r.Perm s.2) : kidsC ks ss = 0 := by
  induction ks generalizing ss with
  | nil => rw [kidsC]; intro _ _ _ _ h; cases h
  | cons k ks ih =>
    cases ss with
    | nil => rfl
    | cons s ss =>
      obtain ⟨h1, h2⟩ := h 0 k s rfl rfl; (rw [kidsC, if_pos (by rw [(isEq_perm _ _).2 h1, (isEq_perm _ _).2 h2]; rfl)]); (exact ih fun j k s hk hs => h (j + 1) k s (by simpa using hk) (by simpa using hs))
theorem step_zero {a : ByteArray} {f : Fm} {l r : List Fm} {ks : List Pf} {q : Ru} {ss : List (List Fm × List Fm)} (h1 : (seqCode l r).1 = 0) (h2 : a.data.toList ≠ weakT) (h3 : ruleOf false a.data.toList = some q) (h4 : f.pcode.1 = 0) (h5 : prem false q f l r = some ss) (h6 : ks.length = ss.length) (h7 : kidsC ks ss = 0) : stepC false (.mk a f l r ks) = 0 := by
  (rw [stepC, if_neg (by rintro (h | ⟨h, -⟩); exact h h1; cases h), if_neg h2, h3]); simp only; (rw [if_neg (fun h => h h4), h5]); simp only; (rw [if_neg (fun h => h h6), h7])
theorem kind_of {ps : List PartM} {fs : List Fm} (h : TabOk ps fs) {i : Nat} {p : PartM} (hp : ps[i / 2]? = some p) : (itF fs i).kind = p.kind := by
  have h1 := (h.at' _ p hp).2; unfold itF; rw [List.getD_eq_getElem?_getD, h1]; rfl
theorem wpf_fine {ps : List PartM} {fs : List Fm} (h : TabOk ps fs) (hpl : ∀ n, n < fs.length → Pl (fs.getD n zeroF)) (hc : ∀ n, n < fs.length → (fs.getD n zeroF).pcode.1 = 0) {d : Nat} {p : Plan} {is : List Nat} {P : Pf} (hw : WPf ps fs d p is P) : PlanOk ps p → PlanN p → (∀ x ∈ is, x / 2 < ps.length) → (∀ x ∈ p.needs, x ∈ is) → FineP d P := by
  (have hcd : ∀ is : List Nat, (∀ x ∈ is, x / 2 < ps.length) → ∀ i ∈ is, (itF fs i).pcode.1 = 0 := fun is hb i hi => hc _ (by rw [← h.len]; exact hb i hi))
  induction hw with
  | weak d a ha p is k hd hl hk ih =>
    intro ho hn hb hs
    have hnd : p.needs.Nodup := by
      cases hn with
      | mk a i needs kids h1 h2 h3 => exact h1
    have he := hk.ends; (refine FineP.mk d a _ _ _ _ hd ?_ (by rw [ha]; decide) fun q hq => ?_)
    · rw [stepC, if_neg (by rintro (h | ⟨h, -⟩); exact h (side_code hl (hcd is hb)); cases h), if_pos ha]
      unfold weakC; rw [if_pos rfl]; simp only; (rw [he.1, he.2, (within_count _ _).2 fun f => (side_within hnd hs f).1, (within_count _ _).2 fun f => (side_within hnd hs f).2]); rfl
    · rw [List.mem_singleton.1 hq]
      exact ih ho hn (fun x hx => hb x (hs x hx)) fun x hx => hx
  | step d a i needs kids is ks hd hl hlen hk ih =>
    intro ho hn hb hs; have hco := side_code hl (hcd is hb)
    cases ho with
    | ax _ ha _ n hi hnl =>
      subst hi; (have e1 : 2 * (i / 2) ∈ is := hs _ (by simp [Plan.needs])); (have e2 : 2 * (i / 2) + 1 ∈ is := hs _ (by simp [Plan.needs])); (have f1 : itF fs i ∈ sideL fs is := List.mem_map.2 ⟨2 * (i / 2), List.mem_filter.2 ⟨e1, by rw [(itR_two _).1]; rfl⟩, (itF_two fs _).1⟩); have f2 : itF fs i ∈ sideR fs is := List.mem_map.2 ⟨2 * (i / 2) + 1, List.mem_filter.2 ⟨e2, (itR_two _).2⟩, (itF_two fs _).2⟩; (have hks : ks = [] := List.length_eq_zero_iff.1 (by rw [hlen]; rfl)); subst hks; (refine FineP.mk d a _ _ _ _ hd (step_zero hco (by rw [ha]; decide) (q := .ax) (ss := []) (by rw [ha]; decide) (hc _ (by rw [← h.len]; exact hnl)) ?_ rfl rfl) (by rw [ha]; decide) fun k hk => by cases hk); unfold prem; simp only
      rw [if_pos ⟨f1, f2⟩]
    | tr _ ha _ q hp hkd hr =>
      (have e1 : i ∈ is := hs _ (by simp [Plan.needs])); have f1 := (side_right (fs := fs) e1 hr).1; (have hks : ks = [] := List.length_eq_zero_iff.1 (by rw [hlen]; rfl)); subst hks; (refine FineP.mk d a _ _ _ _ hd (step_zero hco (by rw [ha]; decide) (q := .tr) (ss := []) (by rw [ha]; decide) (hcd is hb i e1) ?_ rfl rfl) (by rw [ha]; decide) fun k hk => by cases hk); unfold prem; simp only
      rw [if_pos ⟨(kind_of h hp).trans hkd, f1⟩]
    | fa _ ha _ q hp hkd hr =>
      (have e1 : i ∈ is := hs _ (by simp [Plan.needs])); have f1 := (side_left (fs := fs) e1 hr).1; (have hks : ks = [] := List.length_eq_zero_iff.1 (by rw [hlen]; rfl)); subst hks; (refine FineP.mk d a _ _ _ _ hd (step_zero hco (by rw [ha]; decide) (q := .fa) (ss := []) (by rw [ha]; decide) (hcd is hb i e1) ?_ rfl rfl) (by rw [ha]; decide) fun k hk => by cases hk); unfold prem; simp only
      rw [if_pos ⟨(kind_of h hp).trans hkd, f1⟩]
    | step _ _ _ _ hi ha hin hne hlen2 hko hnd =>
      have e1 : i ∈ is := hs _ hin; have hp := List.getElem?_eq_getElem hi; (have hplI := hpl (i / 2) (by rw [← h.len]; exact hi)); obtain ⟨q, ss, r1, r2, r3, r4, r5, r6⟩ := way_prem h hp hplI is e1 hne; rw [← ha] at r1 r2 r3
      have row : ∀ (j : Nat) (k : Pf), ks[j]? = some k → ∃ kp pr, kids[j]? = some kp ∧ (wayOf ps i).2[j]? = some pr := fun j k hj => by
        have hlt := (List.getElem?_eq_some_iff.1 hj).1; (exact ⟨_, _, List.getElem?_eq_getElem (by omega), List.getElem?_eq_getElem (by omega)⟩)
      (refine FineP.mk d a _ _ _ _ hd (step_zero hco r2 r1 (hcd is hb i e1) r4 (by rw [hlen, hlen2, r5]) (kids_zero fun j k s hj hsj => ?_)) r3 fun k hkm => ?_)
      · obtain ⟨kp, pr, g1, g2⟩ := row j k hj
        have he := (hk j kp k pr g1 g2 hj).ends; rw [he.1, he.2]; exact r6 j pr s g2 hsj
      · obtain ⟨j, hj⟩ := List.getElem?_of_mem hkm
        obtain ⟨kp, pr, g1, g2⟩ := row j k hj
        cases hn with
        | mk _ _ _ _ n1 n2 n3 =>
          have hkp := List.mem_of_getElem? g1; (refine ih j kp k pr g1 g2 hj (hko j kp g1) (n2 kp hkp) (fun x hx => ?_) fun x hx => ?_)
          · rcases List.mem_append.1 hx with hx | hx
            · exact hb x (List.mem_of_mem_erase hx)
            · have := (way_small h hp hplI pr (List.mem_of_getElem? g2) x hx).1
              omega
          · rcases hnd j kp pr g1 g2 x hx with hx2 | hx2
            · exact List.mem_append_right _ hx2
            · exact List.mem_append_left _ ((List.mem_erase_of_ne fun e => n3 kp hkp (by rw [← e]; exact hx)).2 (hs x hx2))
end Go.Proofs.YtalnljnincnbdacGreat
/- How many steps the writer writes at most: what 25 nodes can bring about. -/
namespace Go.Proofs.YtalnljnincnbdacGreat

/-- A bound on the steps for items of so many nodes. -/
def Bs : Nat → Nat
  | 0 => 1
  | 1 => 2
  | n + 2 => 1 + 2 * Bs n
theorem Bs_lt : ∀ n, 1 + Bs n ≤ Bs (n + 1)
  | 0 => by decide
  | 1 => by decide
  | n + 2 => by
    have := Bs_lt n; rw [Bs, show n + 2 + 1 = (n + 1) + 2 from rfl, Bs]; omega
theorem Bs_mono {m n : Nat} (h : m ≤ n) : Bs m ≤ Bs n := by
  induction n with
  | zero => rw [Nat.le_zero.1 h]; exact Nat.le_refl _
  | succ n ih =>
    rcases Nat.lt_or_ge n m with h1 | h1
    · rw [show m = n + 1 by omega]; exact Nat.le_refl _
    · have := Bs_lt n
      have := ih h1; omega
theorem Bs_one {m n : Nat} (h : m + 1 ≤ n) : 1 + Bs m ≤ Bs n := Nat.le_trans (Bs_lt m) (Bs_mono h)
theorem Bs_two {m n : Nat} (h : m + 2 ≤ n) : 1 + 2 * Bs m ≤ Bs n := by
  have := Bs_mono h
  rwa [Bs] at this
theorem Bs_pos (n : Nat) : 1 ≤ Bs n := Bs_mono (Nat.zero_le n)
theorem Bs_25 : Bs 25 = 12287 := by decide
theorem sum_erase (g : Nat → Nat) : ∀ {is : List Nat} {i : Nat}, i ∈ is → (is.map g).sum = g i + ((is.erase i).map g).sum
  | x :: is, i, h => by
    by_cases e : x = i
    · subst e
      rw [List.erase_cons_head, List.map_cons, List.sum_cons]
    · have h' : i ∈ is := by
        rcases List.mem_cons.1 h with h | h
        · exact absurd h.symm e
        · exact h
      (rw [List.erase_cons_tail (by simpa using e), List.map_cons, List.sum_cons, List.map_cons, List.sum_cons, sum_erase g h']); omega
theorem nods_step {x : Fx} (h : TabOk x.ps x.fs) {i : Nat} {p : PartM} (hp : x.ps[i / 2]? = some p) (hpl : Pl (x.fs.getD (i / 2) zeroF)) {is pr : List Nat} (hi : i ∈ is) (hpr : pr ∈ (wayOf x.ps i).2) : x.nods (is.erase i ++ pr) + (wayOf x.ps i).2.length ≤ x.nods is := by
  have h1 := (way_sizes h hp hpl).2 pr hpr; (have h2 := sum_erase (fun j => (itF x.fs j).size) hi); unfold Fx.nods; rw [List.map_append, List.sum_append, h2]; omega
theorem nods_len {x : Fx} (is : List Nat) (hs : ∀ f : Fm, 1 ≤ f.size) : is.length ≤ x.nods is := by
  unfold Fx.nods
  induction is with
  | nil => simp
  | cons y is ih =>
    rw [List.map_cons, List.sum_cons, List.length_cons]; have := hs (itF x.fs y); omega
end Go.Proofs.YtalnljnincnbdacGreat
/- Plans, rows and what follows. -/
namespace Go.Proofs.YtalnljnincnbdacGreat

theorem side_mem {fs : List Fm} {is : List Nat} {x : Nat} (hx : x ∈ is) : (itR x = false → itF fs x ∈ sideL fs is) ∧ (itR x = true → itF fs x ∈ sideR fs is) :=
  ⟨fun h => List.mem_map.2 ⟨x, List.mem_filter.2 ⟨hx, by rw [h]; rfl⟩, rfl⟩, fun h => List.mem_map.2 ⟨x, List.mem_filter.2 ⟨hx, h⟩, rfl⟩⟩
/-- What has a plan follows. -/
theorem plan_valid {ps : List PartM} {fs : List Fm} (h : TabOk ps fs) (hpl : ∀ n, n < fs.length → Pl (fs.getD n zeroF)) {p : Plan} (hp : PlanOk ps p) {is : List Nat} (hs : ∀ x ∈ p.needs, x ∈ is) : Valid (sideL fs is) (sideR fs is) := fun t hl => by
  apply Classical.byContradiction; intro hno; (refine plan_sound h hpl t hp fun x hx => ?_); have hm := side_mem (fs := fs) (hs x hx); unfold itH
  cases hr : itR x
  · rw [if_neg (by simp)]
    exact hl _ (hm.1 hr)
  · rw [if_pos rfl]
    cases ht : tv t (itF fs x)
    · rfl
    · exact absurd ⟨_, hm.2 hr, ht⟩ hno
/-- What a row speaks against does not follow. -/
theorem row_invalid {fs : List Fm} {is : List Nat} {t : List UInt8 → Bool} (h : ∀ x ∈ is, itH t fs x = true) : (∀ f ∈ sideL fs is, tv t f = true) ∧ ∀ f ∈ sideR fs is, tv t f = false := by
  (refine ⟨fun f hf => ?_, fun f hf => ?_⟩)
  · obtain ⟨x, hx, rfl⟩ := List.mem_map.1 hf
    obtain ⟨hx, hr⟩ := List.mem_filter.1 hx; (have hr' : itR x = false := by simpa using hr); have := h x hx; unfold itH at this; (rw [hr', if_neg (by simp)] at this); exact this
  · obtain ⟨x, hx, rfl⟩ := List.mem_map.1 hf
    obtain ⟨hx, hr⟩ := List.mem_filter.1 hx; have := h x hx; unfold itH at this; rw [if_pos hr] at this; simpa using this
theorem not_valid {l r : List Fm} {t : List UInt8 → Bool} (h : (∀ f ∈ l, tv t f = true) ∧ ∀ f ∈ r, tv t f = false) : ¬ Valid l r := fun hv => by
  obtain ⟨g, hg, ht⟩ := hv t h.1; rw [h.2 g hg] at ht
  cases ht
/-- The cut, plainly. -/
theorem valid_cut (l r : List Fm) (f : Fm) : Valid l r ↔ Valid l (r ++ [f]) ∧ Valid (l ++ [f]) r := by
  constructor
  · intro h
    (refine ⟨fun t ht => ?_, fun t ht => ?_⟩)
    · obtain ⟨g, hg, e⟩ := h t ht
      exact ⟨g, List.mem_append_left _ hg, e⟩
    · exact h t fun g hg => ht g (List.mem_append_left _ hg)
  · rintro ⟨h1, h2⟩ t ht
    obtain ⟨g, hg, e⟩ := h1 t ht
    rcases List.mem_append.1 hg with hg | hg
    · exact ⟨g, hg, e⟩
    · rw [List.mem_singleton.1 hg] at e
      (refine h2 t fun q hq => ?_)
      rcases List.mem_append.1 hq with hq | hq
      · exact ht q hq
      · rw [List.mem_singleton.1 hq]; exact e
end Go.Proofs.YtalnljnincnbdacGreat
/- Walks: VastProof says no of what is small. -/
namespace Go.Proofs.YtalnljnincnbdacGreat
open Go.RowKit

/-- Small at each step. -/
inductive Tiny : Nat → Pf → Prop
  | mk (d : Nat) (a : ByteArray) (f : Fm) (l r : List Fm) (ks : List Pf) (h1 : d ≤ 1200) (h2 : ks.length ≤ 1200) (h3 : l.length ≤ 300) (h4 : r.length ≤ 300) (h5 : f.size ≤ 200) (h6 : ∀ x ∈ l, x.size ≤ 200) (h7 : ∀ x ∈ r, x.size ≤ 200) (h8 : ∀ k ∈ ks, Tiny (d + 1) k) : Tiny d (.mk a f l r ks)
theorem Tiny.small {d : Nat} {p : Pf} (h : Tiny d p) : SmallP p := by
  induction h with
  | mk d a f l r ks h1 h2 h3 h4 h5 h6 h7 h8 ih => exact SmallP.mk h3 h4 h2 ih
end Go.Proofs.YtalnljnincnbdacGreat
/- What the writer promises of a plan. -/
namespace Go.Proofs.YtalnljnincnbdacGreat
open Go.RowKit

theorem nodup_le : ∀ {l is : List Nat}, l.Nodup → (∀ x ∈ l, x ∈ is) → l.length ≤ is.length
  | [], _, _, _ => Nat.zero_le _
  | x :: l, is, hn, hs => by
    have hx := hs x (List.mem_cons_self ..); (have ih := nodup_le (l := l) (is := is.erase x) (List.nodup_cons.1 hn).2 fun y hy => (List.mem_erase_of_ne (fun e => (List.nodup_cons.1 hn).1 (by rw [← e]; exact hy))).2 (hs y (List.mem_cons_of_mem _ hy))); have h1 := List.length_erase_of_mem hx; have h2 := List.length_pos_of_mem hx; rw [List.length_cons]; omega
theorem fm_pos : ∀ f : Fm, 1 ≤ f.size
  | .mk k n ks => by rw [Fm.size]; omega
theorem psizes_snoc : ∀ (ks : List Pf) (p : Pf), Pf.sizes (ks ++ [p]) = Pf.sizes ks + p.size
  | [], p => by rw [List.nil_append, Pf.sizes, Pf.sizes, Pf.sizes]; omega
  | k :: ks, p => by rw [List.cons_append, Pf.sizes, Pf.sizes, psizes_snoc ks p]; omega
theorem Bs_ways {r m m' : Nat} (h1 : 1 ≤ r) (h2 : r ≤ 2) (h : m' + r ≤ m) : 1 + r * Bs m' ≤ Bs m := by
  rcases (by omega : r = 1 ∨ r = 2) with rfl | rfl
  · have := Bs_one h
    omega
  · exact Bs_two h
/-- What is known behind j kids of r, each of items with m - r nodes at most. -/
structure Cnt (m r st nd j st' nd' : Nat) : Prop where
  steps : st' ≤ st + 1 + j * Bs (m - r)
  nodes : nd' ≤ nd + m + j * (Bs (m - r) * (m - r))
theorem Cnt.zero (m r st nd : Nat) : Cnt m r st nd 0 (st + 1) (nd + m) := ⟨by omega, by omega⟩
theorem Cnt.more {m r st nd j st' nd' st2 nd2 m' : Nat} (h : Cnt m r st nd j st' nd') (hm : m' + r ≤ m) (h1 : st2 ≤ st' + Bs m') (h2 : nd2 ≤ nd' + Bs m' * m') : Cnt m r st nd (j + 1) st2 nd2 := by
  (have e1 : Bs m' ≤ Bs (m - r) := Bs_mono (by omega)); (have e2 : Bs m' * m' ≤ Bs (m - r) * (m - r) := Nat.mul_le_mul e1 (by omega)); have := h.steps; have := h.nodes; refine ⟨?_, ?_⟩
  · rw [Nat.add_mul, Nat.one_mul]
    omega
  · rw [Nat.add_mul, Nat.one_mul]
    omega
theorem Bs_all {m r : Nat} (h2 : r ≤ 2) (h : r ≤ m) : 1 + r * Bs (m - r) ≤ Bs m ∧ m + r * (Bs (m - r) * (m - r)) ≤ Bs m * m := by
  have h0 : 1 + r * Bs (m - r) ≤ Bs m := by
    rcases Nat.eq_zero_or_pos r with h1 | h1
    · subst h1
      have := Bs_pos m; omega
    · exact Bs_ways h1 h2 (by omega)
  refine ⟨h0, ?_⟩
  have e3 : r * (Bs (m - r) * (m - r)) ≤ r * Bs (m - r) * m := by
    rw [← Nat.mul_assoc]; (exact Nat.mul_le_mul_left _ (by omega))
  have e4 : (1 + r * Bs (m - r)) * m ≤ Bs m * m := Nat.mul_le_mul_right _ h0; rw [Nat.add_mul, Nat.one_mul] at e4; omega
theorem Cnt.last {m r st nd st' nd' : Nat} (h : Cnt m r st nd r st' nd') (h2 : r ≤ 2) (hr : r ≤ m) : st' ≤ st + Bs m ∧ nd' ≤ nd + Bs m * m := by
  obtain ⟨e1, e2⟩ := Bs_all h2 hr; have := h.steps; have := h.nodes; omega
/-- There is room for the next kid, where there is for all. -/
theorem Cnt.fits {m r st nd j st' nd' m' deep : Nat} (h : Cnt m r st nd j st' nd') (hj : j < r) (h2 : r ≤ 2) (hm : m' + r ≤ m) (g1 : st + Bs m ≤ 20000) (g2 : deep + m ≤ 400) (g3 : m ≤ 60) (g4 : nd + Bs m * m ≤ 2097152) : st' + Bs m' ≤ 20000 ∧ deep + 1 + m' ≤ 400 ∧ m' ≤ 60 ∧ nd' + Bs m' * m' ≤ 2097152 := by
  (have e1 : Bs m' ≤ Bs (m - r) := Bs_mono (by omega)); (have e2 : Bs m' * m' ≤ Bs (m - r) * (m - r) := Nat.mul_le_mul e1 (by omega)); (obtain ⟨e3, e4⟩ := Bs_all (m := m) h2 (by omega)); have h3 := h.steps; have h4 := h.nodes; have h5 : (j + 1) * Bs (m - r) ≤ r * Bs (m - r) := Nat.mul_le_mul_right _ hj; have h6 : (j + 1) * (Bs (m - r) * (m - r)) ≤ r * (Bs (m - r) * (m - r)) := Nat.mul_le_mul_right _ hj; rw [Nat.add_mul, Nat.one_mul] at h5 h6; omega
/-- Room for all that a plan for these items may take. -/
def Roomy (m st nd deep : Nat) : Prop := st + Bs m ≤ 20000 ∧ deep + m ≤ 400 ∧ m ≤ 60 ∧ nd + Bs m * m ≤ 2097152
theorem Roomy.one {m st nd deep : Nat} (h : Roomy m st nd deep) {l : Nat} (hl : l ≤ m) : st + 1 ≤ 20000 ∧ deep ≤ 400 ∧ l ≤ 60 ∧ nd + m ≤ 2097152 := by
  obtain ⟨h1, h2, h3, h4⟩ := h; have e := Bs_pos m; have e2 : 1 * m ≤ Bs m * m := Nat.mul_le_mul_right _ e; omega
/-- What write promises. -/
def WrPost (x : Fx) (w : World) (bz : Nat) (lean : Bool) (st nd deep : Nat) (p : Plan) (is : List Nat) (e : Ending) (w' : World) : Prop :=
  ∃ (P : Pf) (pv : Value) (fits : Bool) (st' nd' : Nat), e = .returned (.tuple #[pv, .bool fits]) ∧ PRp (w.heap.size ≤ ·) w' P pv ∧ WrSt x w' bz lean st' nd' ∧ Kept (fun b => b ≠ bz) w w' ∧
    (fits = true → WPf x.ps x.fs deep p is P ∧ st' = st + P.size ∧ st' ≤ 20000 ∧ nd' ≤ 2097152 ∧ (lean = false → st' ≤ st + Bs (x.nods is) ∧ nd' ≤ nd + Bs (x.nods is) * x.nods is)) ∧ (fits = false → lean = false → ¬ Roomy (x.nods is) st nd deep)
def leavesB (lean : Bool) (p : Plan) (is : List Nat) : Bool := lean && decide (0 < p.kids.length) && decide (p.needs.length < is.length)
/-- Of a plan: b: also where a step by weak comes first. -/
def WSpec (x : Fx) (b : Bool) (p : Plan) : Prop := ∀ (w : World) (bz : Nat) (lean : Bool) (st nd deep : Nat) (is : List Nat) (pv v : Value), WrSt x w bz lean st nd → PlanR (fun b => b ≠ bz) w p pv → IRow (fun b => b ≠ bz) w v is → (∀ i ∈ is, i < x.L) → (∀ y ∈ p.needs, y ∈ is) → is.length ≤ 100 → st ≤ 20000 → nd ≤ 2097152 → deep ≤ 401 → (b = false → leavesB lean p is = false) →
  Calls Tryz.prog 103 #[.pointer (some ⟨bz, 0, none⟩), pv, v, .int .i64 (deep : Nat)] w (WrPost x w bz lean st nd deep p is)
theorem zero_pf (w : World) (B : Nat) : PRp (B ≤ ·) w (.mk ⟨#[]⟩ (.mk 0 ⟨#[]⟩ []) [] [] []) (.agg #[.string ⟨#[]⟩, .int .i64 0, .string ⟨#[]⟩, .slice none 0 0, .slice none 0 0, .slice none 0 0, .slice none 0 0]) := by
  rw [PRp.def]; (refine ⟨.int .i64 0, .string ⟨#[]⟩, .slice none 0 0, .slice none 0 0, .slice none 0 0, none, 0, rfl, by unfold maxLen; decide, Rep.leaf (by simp [maxLen, ByteArray.size]), ⟨none, 0, rfl, Nat.le_refl _, by unfold maxLen; omega, fun h => absurd rfl h⟩, ⟨none, 0, rfl, Nat.le_refl _, by unfold maxLen; omega, fun h => absurd rfl h⟩, Nat.le_refl _, by unfold maxLen; omega, fun h => absurd rfl h⟩)
end Go.Proofs.YtalnljnincnbdacGreat
