/- Texts of one proof, one behind the other: CE5, CE6. -/
import Derived.Test.YtlmjnglcdgkomacB33
/- Walks: the rules of a calculus. -/
namespace Go.Proofs.Ytlmjnglcdgkomac
open Go.RowKit Go.Maps Go.WideMaps

def ents (L : List (List UInt8 × Value)) : List (Lit × DataW Value) := L.map fun p => (.string p.1, .held p.2)
theorem putAll_ents (L : List (List UInt8 × Value)) : putAll L = (ents L).foldl (fun D p => D.put p.1 p.2) (.map []) := by
  unfold putAll ents; rw [List.foldl_map]
theorem ents_keys (L : List (List UInt8 × Value)) : ∀ p ∈ ents L, WideAt.IsKeyLit p.1 := fun p hp => by
  obtain ⟨x, _, rfl⟩ := List.mem_map.1 hp
  first | trivial | exact True.intro | simp [WideAt.IsKeyLit]
theorem same_str (a b : List UInt8) : (Lit.string a).sameKey (.string b) = decide (a = b) := by
  by_cases h : a = b
  · subst h
    rw [decide_eq_true rfl]; (exact WideAt.sameKey_self (by first | trivial | exact True.intro | simp [WideAt.IsKeyLit]))
  · rw [decide_eq_false h]
    (exact sameKey_ne fun e => h (by injection e))
theorem putAll_has (L : List (List UInt8 × Value)) (t : List UInt8) : Maps.has (putAll L) (.string t) = L.any fun p => decide (p.1 = t) := by
  rw [putAll_ents, has_foldPut _ _ _ isMap_empty (ents_keys L)]; unfold ents; rw [List.any_map]; have : Maps.has (.map [] : DataW Value) (.string t) = false := rfl; rw [this, Bool.false_or]
  congr 1
  funext p
  exact same_str _ _
theorem putAll_at (L : List (List UInt8 × Value)) (hn : (L.map (·.1)).Nodup) (t : List UInt8) (v : Value) (h : (t, v) ∈ L) (z : DataW Value) : (putAll L).atKey (.string t) z = .held v := by
  rw [putAll_ents, atKey_foldPut _ _ _ _ isMap_empty (ents_keys L)]
  · have hf : (ents L).find? (fun p => p.1.sameKey (.string t)) = some (.string t, .held v) := by
      unfold ents; rw [List.find?_map]
      have : L.find? ((fun p : Lit × DataW Value => p.1.sameKey (.string t)) ∘ fun p : List UInt8 × Value => ((Lit.string p.1, DataW.held p.2) : Lit × DataW Value)) = some (t, v) := by
        have e : ((fun p : Lit × DataW Value => p.1.sameKey (.string t)) ∘ fun p : List UInt8 × Value => ((Lit.string p.1, DataW.held p.2) : Lit × DataW Value)) = fun p => decide (p.1 = t) := by
          funext p
          exact same_str _ _
        rw [e]
        induction L with
        | nil => cases h
        | cons p L ih =>
          simp only [List.map_cons, List.nodup_cons] at hn
          rcases List.mem_cons.1 h with rfl | h
          · simp
          · have hne : p.1 ≠ t := fun e => hn.1 (List.mem_map.2 ⟨(t, v), h, e.symm⟩)
            (rw [List.find?_cons_of_neg (by simpa using hne)]); exact ih hn.2 h
      rw [this]; rfl
    rw [hf]
  · unfold ents
    rw [List.pairwise_map]; refine (List.pairwise_map.1 hn).imp ?_; intro a b hab e; (exact hab (by injection e))

theorem RL.texts {i : Bool} {B : Nat} {w : World} : ∀ {L : List (List UInt8 × Value)} {qs : List Ru}, RL i B w L qs → L.map (·.1) = qs.map Ru.text
  | [], [], _ => rfl
  | _ :: _, _ :: _, h => by rw [List.map_cons, List.map_cons, h.1, RL.texts h.2.2]
theorem RL.mem {i : Bool} {B : Nat} {w : World} {q : Ru} : ∀ {L : List (List UInt8 × Value)} {qs : List Ru}, RL i B w L qs → q ∈ qs → ∃ v, (q.text, v) ∈ L ∧ RuleFn i q v B w
  | [], [], _, h => by cases h
  | p :: L, q' :: qs, h, hq => by
    rcases List.mem_cons.1 hq with rfl | hq
    · exact ⟨p.2, by rw [← h.1]; exact List.mem_cons_self, h.2.1⟩
    · obtain ⟨v, h1, h2⟩ := RL.mem h.2.2 hq
      exact ⟨v, List.mem_cons_of_mem _ h1, h2⟩

/-- The rules of a calculus, in a map. -/
def RulesAt (i : Bool) (w : World) (b : Nat) : Prop := ∃ n D, w.ownsMap Try.prog 9 heldR b n D ∧ (∀ t : List UInt8, Maps.has D (.string t) = (ruleOf i t).isSome) ∧
  ∀ (t : List UInt8) (q : Ru), ruleOf i t = some q → ∃ v B, (∀ z, D.atKey (.string t) z = .held v) ∧ RuleFn i q v B w
theorem RulesAt.up {i : Bool} {w w' : World} {b : Nat} (h : RulesAt i w b) (hb : Below w.heap.size w w') : RulesAt i w' b := by
  obtain ⟨n, D, h1, h2, h3⟩ := h; (refine ⟨n, D, h1.kept (grown_of_below hb) (by simp), h2, fun t q hq => ?_⟩); obtain ⟨v, B, h4, h5⟩ := h3 t q hq; exact ⟨v, B, h4, h5.over (over_below hb)⟩

theorem merge_has {H : Type} {Dd : DataW H} {es : List (Lit × DataW H)} (hd : IsMap Dd) (hk : ∀ p ∈ es, WideAt.IsKeyLit p.1) (k : Lit) : Maps.has (Lib.mergeD Dd (.map es)) k = (Maps.has Dd k || Maps.has (.map es) k) := by
  unfold Lib.mergeD; rw [has_foldPut k es Dd hd hk, has_eq]
theorem merge_at {H : Type} {Dd : DataW H} {es : List (Lit × DataW H)} (hd : IsMap Dd) (hk : ∀ p ∈ es, WideAt.IsKeyLit p.1) (hp : es.Pairwise (fun p q => p.1 ≠ q.1)) (k : Lit) (z : DataW H) : (Lib.mergeD Dd (.map es)).atKey k z = if Maps.has (.map es) k = true then (DataW.map es).atKey k z else Dd.atKey k z := by
  unfold Lib.mergeD; rw [atKey_foldPut k z es Dd hd hk hp, has_eq]
  cases hf : es.find? (fun p => p.1.sameKey k) with
  | none =>
    have : es.any (fun p => p.1.sameKey k) = false := by
      rw [List.any_eq_false]; intro p hp'; have := List.find?_eq_none.1 hf p hp'; simpa using this
    rw [this]
    rfl
  | some p =>
    have h1 := List.find?_some hf; (have : es.any (fun p => p.1.sameKey k) = true := List.any_eq_true.2 ⟨p, List.mem_of_find?_eq_some hf, h1⟩); rw [this, if_pos rfl]; have h2 := WideAt.sameKey_eq h1; rw [← h2]; exact (WideAt.atKey_mem z (hk p (List.mem_of_find?_eq_some hf)) hp (List.mem_of_find?_eq_some hf)).symm
end Go.Proofs.Ytlmjnglcdgkomac
/- Walks: calculus.rules. -/
namespace Go.Proofs.Ytlmjnglcdgkomac
open Go.RowKit Go.Maps Go.WideMaps

def commonQ : List Ru := [.ax, .tr, .fa, .andL, .andR, .orL, .thenR, .notR, .contrL]
def moreQ (i : Bool) : List Ru := if i then [.orR1, .orR2, .thenL, .notL, .cut] else [.orR, .thenL, .notL, .contrR, .cut]
theorem rulesL_eq (i : Bool) : rulesL i = commonQ ++ moreQ i := by cases i <;> rfl
theorem texts_nodup (i : Bool) : ((rulesL i).map Ru.text).Nodup := by cases i <;> decide
theorem any_texts {L : List (List UInt8 × Value)} {qs : List Ru} (h : L.map (·.1) = qs.map Ru.text) (t : List UInt8) : (L.any fun p => decide (p.1 = t)) = qs.any fun q => decide (q.text = t) := by
  (have h1 : (L.any fun p => decide (p.1 = t)) = (L.map (·.1)).any fun x => decide (x = t) := by rw [List.any_map]; rfl); (have h2 : (qs.any fun q => decide (q.text = t)) = (qs.map Ru.text).any fun x => decide (x = t) := by rw [List.any_map]; rfl); rw [h1, h2, h]
theorem find_some_any {α : Type} (p : α → Bool) (l : List α) : (l.find? p).isSome = l.any p := by
  induction l with
  | nil => rfl
  | cons x l ih =>
    by_cases h : p x = true
    · rw [List.find?_cons_of_pos h, List.any_cons, h]; rfl
    · rw [List.find?_cons_of_neg h, List.any_cons, ih]
      simp only [Bool.not_eq_true] at h; rw [h, Bool.false_or]

/-- Two maps of rules in one. -/
theorem merged_rules {i : Bool} {B B' b n : Nat} {w : World} {L M : List (List UInt8 × Value)} (h1 : RL i B w L commonQ) (h2 : RL i B' w M (moreQ i)) (ho : w.ownsMap Try.prog 9 heldR b n (Lib.mergeD (putAll L) (putAll M)))
    {w0 : World} {b0 n0 : Nat} (hM : w0.ownsMap Try.prog 9 heldR b0 n0 (putAll M)) {w1 : World} {b1 n1 : Nat} (hL : w1.ownsMap Try.prog 9 heldR b1 n1 (putAll L)) : RulesAt i w b := by
  obtain ⟨es, hes, hpw, hkl⟩ := hM.entries strKeyed; have hnd := texts_nodup i; rw [rulesL_eq, List.map_append, List.nodup_append] at hnd
  have hhas : ∀ t : List UInt8, Maps.has (Lib.mergeD (putAll L) (putAll M)) (.string t) = (ruleOf i t).isSome := fun t => by
    unfold ruleOf; rw [hes, merge_has hL.isMap hkl, ← hes, putAll_has, putAll_has, any_texts h1.texts, any_texts h2.texts, find_some_any, rulesL_eq, List.any_append]
  (refine ⟨n, _, ho, hhas, fun t q hq => ?_⟩)
  have hqt : q.text = t := by
    have := List.find?_some hq; simpa using this
  have hqm := List.mem_of_find?_eq_some hq; rw [rulesL_eq, List.mem_append] at hqm; (have hmh : ∀ t : List UInt8, Maps.has (putAll M) (.string t) = (moreQ i).any fun q => decide (q.text = t) := fun t => by rw [putAll_has, any_texts h2.texts]); by_cases hm : q ∈ moreQ i
  · obtain ⟨v, hv, hr⟩ := h2.mem hm
    (refine ⟨v, B', fun z => ?_, hr⟩)
    have hh : Maps.has (.map es) (.string t) = true := by
      rw [← hes, hmh, List.any_eq_true]; (exact ⟨q, hm, by rw [hqt]; simp⟩)
    rw [hes, merge_at hL.isMap hkl hpw, if_pos hh, ← hes, ← hqt]; (exact putAll_at M (by rw [h2.texts]; exact hnd.2.1) q.text v hv z)
  · have hc : q ∈ commonQ := hqm.resolve_right hm
    obtain ⟨v, hv, hr⟩ := h1.mem hc; (refine ⟨v, B, fun z => ?_, hr⟩)
    have hh : ¬ Maps.has (.map es) (.string t) = true := by
      rw [← hes, hmh, List.any_eq_true]; rintro ⟨q', hq', he⟩; (have he' : q'.text = t := by simpa using he); (exact hnd.2.2 q.text (List.mem_map.2 ⟨q, hc, rfl⟩) q'.text (List.mem_map.2 ⟨q', hq', rfl⟩) (by rw [hqt, he']))
    rw [hes, merge_at hL.isMap hkl hpw, if_neg hh, ← hqt]; (exact putAll_at L (by rw [h1.texts]; exact hnd.1) q.text v hv z)

theorem merged_end {i : Bool} {I : Bool → Prop} {w w1 w2 w3 : World} {L M : List (List UInt8 × Value)} {n : Nat} (hi : I i) (h1 : MW (fun _ => True) w w.heap.size L commonQ w1) (h2 : MW I w1 w1.heap.size M (moreQ i) w2) (ho : w3.ownsMap Try.prog 9 heldR w.heap.size n (Lib.mergeD (putAll L) (putAll M))) (hg : w2.grownBy w3 (some w.heap.size)) :
    RulesAt i w3 w.heap.size ∧ Below w.heap.size w w3 := by
  have h12 := h2.below; refine ⟨merged_rules (((h1.rl i trivial).over (over_below h12)).over (over_grown hg)) ((h2.rl i hi).over (over_mono (over_grown hg) (Nat.le_of_lt h1.lt))) ho h2.map h1.map, ?_⟩; (exact below_map (below_join h1.below h12) hg (Nat.le_refl _) (by have := h12.size; have := h1.lt; omega))

theorem rulesCopy_any (bd bs nd ns : Nat) (Dd Ds : DataW Value) (w : World) (hd : w.ownsMap Try.prog 9 heldR bd nd Dd) (hs : w.ownsMap Try.prog 9 heldR bs ns Ds) (hne : bd ≠ bs) (hroom : nd + Maps.size Ds ≤ maxLen) :
    Calls Try.prog 31 #[.map (some bd), .map (some bs)] w fun e w' => e = .returned (.tuple #[]) ∧ w'.ownsMap Try.prog 9 heldR bd (nd + Maps.size Ds) (Lib.mergeD Dd Ds) ∧ w.grownBy w' (some bd) := by
  refine (AnyX.maps_Copy Try.copyLays strKeyed heldR bd bs nd ns Dd Ds w hd hs hne hroom).mono ?_; rintro e w' ⟨h1, h2, -, h4⟩; exact ⟨h1, h2, h4⟩

theorem RL.length {i : Bool} {B : Nat} {w : World} {L : List (List UInt8 × Value)} {qs : List Ru} (h : RL i B w L qs) : L.length = qs.length := by
  have := congrArg List.length h.texts; simpa using this

set_option maxHeartbeats 2000000 in
theorem rules_any (i : Bool) (w : World) : Calls Try.prog 27 #[.bool i] w fun e w' => ∃ b, e = .returned (.map (some b)) ∧ RulesAt i w' b ∧ Below w.heap.size w w' := by
  cases i
  · go_enter Try.func27, Try.ntmps27
    go_wp2_with fail; refine (commonRules_any w).mono ?_; rintro e w1 ⟨L, rfl, hL⟩; (have HL : Hid (MW (fun _ => True) w w.heap.size L commonQ w1) := hL); clear hL; go_wp2_with fail; refine (classicRules_any w1).mono ?_; rintro e w2 ⟨M, rfl, hM⟩; (have HM : Hid (MW (fun i => i = false) w1 w1.heap.size M (moreQ false) w2) := hM); clear hM; go_wp2_with fail; (refine (rulesCopy_any w.heap.size w1.heap.size _ _ _ _ w2 (HL.out.map.up HM.out.below) HM.out.map (by have := HL.out.lt; omega) ?_).mono ?_)
    · have h1 := (HL.out.rl false trivial).length
      have h2 := (HM.out.rl false rfl).length; have h3 := HM.out.map.size_le; rw [h1]; rw [h2] at h3; unfold maxLen; have : commonQ.length = 9 := rfl; have : (moreQ false).length = 5 := rfl; omega
    rintro e w3 ⟨rfl, ho, hg⟩; (have hE := merged_end (i := false) (I := fun i => i = false) rfl HL.out HM.out ho hg); have HE : Hid (RulesAt false w3 w.heap.size ∧ Below w.heap.size w w3) := hE; clear hE ho hg; go_wp2_with fail; go_ret; exact ⟨_, rfl, HE.out⟩
  · go_enter Try.func27, Try.ntmps27
    go_wp2_with fail; refine (commonRules_any w).mono ?_; rintro e w1 ⟨L, rfl, hL⟩; (have HL : Hid (MW (fun _ => True) w w.heap.size L commonQ w1) := hL); clear hL; go_wp2_with fail; refine (intuitRules_any w1).mono ?_; rintro e w2 ⟨M, rfl, hM⟩; (have HM : Hid (MW (fun i => i = true) w1 w1.heap.size M (moreQ true) w2) := hM); clear hM; go_wp2_with fail; (refine (rulesCopy_any w.heap.size w1.heap.size _ _ _ _ w2 (HL.out.map.up HM.out.below) HM.out.map (by have := HL.out.lt; omega) ?_).mono ?_)
    · have h1 := (HL.out.rl true trivial).length
      have h2 := (HM.out.rl true rfl).length; have h3 := HM.out.map.size_le; rw [h1]; rw [h2] at h3; unfold maxLen; have : commonQ.length = 9 := rfl; have : (moreQ true).length = 5 := rfl; omega
    rintro e w3 ⟨rfl, ho, hg⟩; (have hE := merged_end (i := true) (I := fun i => i = true) rfl HL.out HM.out ho hg); have HE : Hid (RulesAt true w3 w.heap.size ∧ Below w.heap.size w w3) := hE; clear hE ho hg; go_wp2_with fail; go_ret; exact ⟨_, rfl, HE.out⟩
end Go.Proofs.Ytlmjnglcdgkomac
