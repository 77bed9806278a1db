/- Texts of one proof, one behind the other: CF3, CF4. -/
import Derived.Test.YtmahgfgndfcmpabB37
/- Walks: weakCode. -/
namespace Go.Proofs.Ytmahgfgndfcmpab
open Go.RowKit

theorem zero_fm {k : Int} {n : ByteArray} {kf : List Fm} : Fm.mk k n kf = .mk 0 ⟨#[]⟩ [] ↔ k = 0 ∧ n.data.toList = [] ∧ kf = [] := by
  constructor
  · intro h
    injection h with h1 h2 h3
    (exact ⟨h1, by rw [h2], h3⟩)
  · rintro ⟨h1, h2, h3⟩
    (have : n = ⟨#[]⟩ := by apply ByteArray.ext; apply Array.ext'; exact h2); rw [h1, this, h3]

theorem weakC_form {f : Fm} {l r : List Fm} {ks : List Pf} (h : ¬ f = .mk 0 ⟨#[]⟩ []) : weakC f l r ks = 5 := by
  unfold weakC; rw [if_neg h]
theorem weakC_one {l r : List Fm} {k : Pf} : weakC (.mk 0 ⟨#[]⟩ []) l r [k] = if within k.l l && within k.r r then 0 else 7 := by
  unfold weakC; rw [if_pos rfl]
theorem weakC_size {l r : List Fm} {ks : List Pf} (h : ¬ ks.length = 1) : weakC (.mk 0 ⟨#[]⟩ []) l r ks = 9 := by
  unfold weakC; rw [if_pos rfl]
  split
  · exact absurd rfl h
  · rfl

set_option maxRecDepth 10000 in
set_option maxHeartbeats 4000000 in
theorem weakCode_any (a : ByteArray) (f : Fm) (l r : List Fm) (ks : List Pf) (hl4 : l.length ≤ 300) (hr4 : r.length ≤ 300) (v : Value) (w : World) (hv : PRep w (.mk a f l r ks) v) :
    Calls Try.prog 120 #[v] w fun e w' => e = .returned (.int .i64 (weakC f l r ks)) ∧ Below w.heap.size w w' := by
  obtain ⟨k, n, kf⟩ := f; obtain ⟨sf, cf, al, cl, ar, cr, sl, cap, rfl, -, -, hl, hr, hkc, hcm, hks⟩ := hv.parts; have HL : Hid (FL w (.slice al l.length cl) l) := hl; have HR : Hid (FL w (.slice ar r.length cr) r) := hr; (have hkI : (ks.length : Int) ≤ 9223372036854775807 := by unfold maxLen at hcm; omega); have HK : Hid (ks ≠ [] → ∃ b off, sl = some ⟨b, off, none⟩ ∧ PReps w b off ks) := hks; clear hv hl hr hks; by_cases hk : k = 0
  · subst hk
    by_cases hn : n.data.toList = []
    · have hn' : n = ⟨#[]⟩ := by apply ByteArray.ext; apply Array.ext'; exact hn
      subst hn'; by_cases hkf : kf = []
      · subst hkf
        by_cases hk1 : ks.length = 1
        · obtain ⟨⟨ka, ⟨kk, kn, kkf⟩, kl, kr, kks⟩, rfl⟩ : ∃ x, ks = [x] := by
            match ks, hk1 with
            | [x], _ => exact ⟨x, rfl⟩
          (obtain ⟨b, off, rfl, hrs⟩ := HK.out (by simp)); obtain ⟨sf2, cf2, al2, cl2, ar2, cr2, sl2, cap2, x0, x1, x2, x3, x4, x5, x6, hrep⟩ := hrs.at 0 ka kk kn kkf kl kr kks rfl; simp only [Nat.zero_mul, Nat.add_zero] at x0 x1 x2 x3 x4 x5 x6; obtain ⟨_, _, _, _, _, _, _, _, hpe, -, -, hkl, hkr, -⟩ := hrep.parts; simp only [Value.agg.injEq, Array.mk.injEq, List.cons.injEq, Value.slice.injEq, and_true, true_and] at hpe; obtain ⟨⟨rfl, rfl⟩, ⟨rfl, rfl⟩, ⟨rfl, rfl⟩, ⟨rfl, rfl⟩⟩ := hpe; (have HW1 : Hid (∀ wx, Below w.heap.size w wx → Calls Try.prog 141 #[.slice al2 kl.length cl2, .slice al l.length cl] wx fun e w' => e = .returned (.bool (within kl l)) ∧ Below wx.heap.size wx w') := fun wx hb => within_any kl l (by omega) _ _ wx (hkl.up hb) (HL.out.up hb)); (have HW2 : Hid (∀ wx, Below w.heap.size w wx → Calls Try.prog 141 #[.slice ar2 kr.length cr2, .slice ar r.length cr] wx fun e w' => e = .returned (.bool (within kr r)) ∧ Below wx.heap.size wx w') := fun wx hb => within_any kr r (by omega) _ _ wx (hkr.up hb) (HR.out.up hb)); rw [weakC_one]; (show Calls Try.prog _ _ _ fun e w' => e = .returned (.int .i64 (if within kl l && within kr r then 0 else 7)) ∧ _); generalize within kl l = e1 at *; generalize within kr r = e2 at *; (have hc1 : (1 : Int) ≤ (cap : Int) := by simp at hkc; omega); have zb : b < w.heap.size := lt_of_cell x0; (have d1 : ¬ b = w.heap.size := by omega); clear hrs HK hrep hkl hkr HL HR hk1 hn hkc hcm
          go_enter Try.func120, Try.ntmps120
          go_wp2_with fail; refine (HW1.out _ (below_more (below_more (Below.refl _ _) _) _)).mono ?_; rintro e w1 ⟨rfl, hb1⟩; have B1 := below_join (below_more (below_more (Below.refl _ w) _) _) hb1; obtain ⟨t0, t1, -⟩ := blk2 (below_keep hb1 (blk_two w _ _)); obtain ⟨j0, j1, j2, j3, j4, j5, j6⟩ := blk7 (below_keep hb1 (alloc_keep (blk_new w _) _))
          cases e1
          · go_wp2_with fail
            go_ret; exact ⟨rfl, B1⟩
          · go_wp2_with fail
            refine (HW2.out _ B1).mono ?_; rintro e w2 ⟨rfl, hb2⟩; have B2 := below_join B1 hb2
            cases e2
            · go_wp2_with fail
              go_ret; exact ⟨rfl, B2⟩
            · go_wp2_with fail
              go_ret; exact ⟨rfl, B2⟩
        · have hkJ : ((ks.length : Int) != 1) = true := by simp; omega
          rw [weakC_size hk1]; clear HK hk1
          go_enter Try.func120, Try.ntmps120
          go_wp2_with fail; go_ret; exact ⟨rfl, below_more (Below.refl _ w) _⟩
      · rw [weakC_form fun h => hkf (zero_fm.1 h).2.2]
        have hkJ : ((kf.length : Int) != 0) = true := by
          have := List.length_pos_iff.2 hkf
          simp
          exact hkf
        clear HK hkf
        go_enter Try.func120, Try.ntmps120
        go_wp2_with fail; go_ret; exact ⟨rfl, below_more (Below.refl _ w) _⟩
    · rw [weakC_form fun h => hn (zero_fm.1 h).2.1]
      (have hnJ : (n.toList == ([] : List UInt8)) = false := by rw [ByteArray.toList_eq]; simpa using hn); (have hnE : (n.toList).isEmpty = false := by rw [ByteArray.toList_eq]; simpa using hn); clear HK hn
      go_enter Try.func120, Try.ntmps120
      go_wp2_with fail; go_ret; exact ⟨rfl, below_more (Below.refl _ w) _⟩
  · rw [weakC_form fun h => hk (zero_fm.1 h).1]
    (have hkJ : (k != 0) = true := by simpa using hk); clear HK
    go_enter Try.func120, Try.ntmps120
    go_wp2_with fail; go_ret; exact ⟨rfl, below_more (Below.refl _ w) _⟩
end Go.Proofs.Ytmahgfgndfcmpab
/- Walks: stepCode. -/
namespace Go.Proofs.Ytmahgfgndfcmpab
open Go.RowKit Go.Maps Go.WideMaps

theorem stepC_end {i : Bool} {a : ByteArray} {f : Fm} {l r : List Fm} {ks : List Pf} (h : noEnd i l r = true) : stepC i (.mk a f l r ks) = 5 := by
  rw [stepC, if_pos]; unfold noEnd at h; rw [Bool.or_eq_true, Bool.and_eq_true] at h
  rcases h with h | h
  · exact Or.inl (by simpa using h)
  · exact Or.inr ⟨h.1, by simpa using h.2⟩
theorem noEnd_not {i : Bool} {l r : List Fm} (h : noEnd i l r = false) : ¬ ((seqCode l r).1 ≠ 0 ∨ (i = true ∧ 1 < r.length)) := by
  unfold noEnd at h; rw [Bool.or_eq_false_iff] at h; rintro (h' | h')
  · have := h.1
    simp at this; exact h' this
  · have := h.2
    rw [h'.1] at this; simp at this; omega
theorem stepC_weak {i : Bool} {a : ByteArray} {f : Fm} {l r : List Fm} {ks : List Pf} (h : noEnd i l r = false) (hw : a.data.toList = weakT) : stepC i (.mk a f l r ks) = weakC f l r ks := by
  rw [stepC, if_neg (noEnd_not h), if_pos hw]
theorem stepC_kind {i : Bool} {a : ByteArray} {f : Fm} {l r : List Fm} {ks : List Pf} (h : noEnd i l r = false) (hw : ¬ a.data.toList = weakT) (hr : ruleOf i a.data.toList = none) : stepC i (.mk a f l r ks) = 4 := by
  rw [stepC, if_neg (noEnd_not h), if_neg hw, hr]
theorem stepC_form {i : Bool} {a : ByteArray} {f : Fm} {l r : List Fm} {ks : List Pf} {q : Ru} (h : noEnd i l r = false) (hw : ¬ a.data.toList = weakT) (hr : ruleOf i a.data.toList = some q) (hp : f.pcode.1 ≠ 0) : stepC i (.mk a f l r ks) = 5 := by
  rw [stepC, if_neg (noEnd_not h), if_neg hw, hr]; (show (if f.pcode.1 ≠ 0 then (5 : Int) else _) = 5); rw [if_pos hp]
theorem stepC_false {i : Bool} {a : ByteArray} {f : Fm} {l r : List Fm} {ks : List Pf} {q : Ru} (h : noEnd i l r = false) (hw : ¬ a.data.toList = weakT) (hr : ruleOf i a.data.toList = some q) (hp : f.pcode.1 = 0) (hn : prem i q f l r = none) : stepC i (.mk a f l r ks) = 7 := by
  rw [stepC, if_neg (noEnd_not h), if_neg hw, hr]; (show (if f.pcode.1 ≠ 0 then (5 : Int) else _) = 7); (rw [if_neg (fun h => h hp), hn])
theorem stepC_kids {i : Bool} {a : ByteArray} {f : Fm} {l r : List Fm} {ks : List Pf} {q : Ru} {ss : List (List Fm × List Fm)} (h : noEnd i l r = false) (hw : ¬ a.data.toList = weakT) (hr : ruleOf i a.data.toList = some q) (hp : f.pcode.1 = 0) (hn : prem i q f l r = some ss) : stepC i (.mk a f l r ks) = if ks.length ≠ ss.length then 9 else kidsC ks ss := by
  rw [stepC, if_neg (noEnd_not h), if_neg hw, hr]; (show (if f.pcode.1 ≠ 0 then (5 : Int) else _) = _); (rw [if_neg (fun h => h hp), hn])

theorem prem_small {i : Bool} {q : Ru} {f : Fm} {l r : List Fm} {ss : List (List Fm × List Fm)} (hl : l.length ≤ 300) (hr : r.length ≤ 300) (h : prem i q f l r = some ss) : ∀ s ∈ ss, s.1.length ≤ 400 ∧ s.2.length ≤ 400 := by
  have h1 : (l.erase f).length ≤ l.length := List.length_erase_le; have h2 : (r.erase f).length ≤ r.length := List.length_erase_le
  cases q <;> simp only [prem] at h
  all_goals
    first
    | (split at h
       · cases h
         intro s hs
         first
         | (cases hs; done)
         | skip
         all_goals simp only [List.mem_cons, List.not_mem_nil, or_false] at hs
         all_goals cases i
         all_goals
           first
           | (rcases hs with rfl | rfl <;> simp <;> omega)
           | (subst hs; simp; omega)
           | (subst hs; simp)
       · cases h)
    | (cases h
       intro s hs; simp only [List.mem_cons, List.not_mem_nil, or_false] at hs
       cases i
       all_goals (rcases hs with rfl | rfl <;> simp <;> omega))

/-- What the look-up of a rule answers. -/
theorem rules_look {i : Bool} {w : World} {m : Nat} (h : RulesAt i w m) (a : ByteArray) (ha : a.size ≤ maxLen) : (ruleOf i a.data.toList = none → ∀ wx, Below w.heap.size w wx → (Instr.lookup 99 (.map (some m)) (.string a) true).run Try.prog wx = .ok (.tuple #[.nilFunc, .bool false]) wx) ∧
    ∀ q, ruleOf i a.data.toList = some q → ∃ v B, RuleFn i q v B w ∧ ∀ wx, Below w.heap.size w wx → (Instr.lookup 99 (.map (some m)) (.string a) true).run Try.prog wx = .ok (.tuple #[v, .bool true]) wx := by
  obtain ⟨n, D, h1, h2, h3⟩ := h; have hkey : keyOf Try.prog 9 (.string a) = some (.string a.data.toList) := keyOf_string_mk Try.underlying9 ha; (have hz : ∀ w, (zeroValue 116).run Try.prog w = .ok .nilFunc w := fun w => by kernel_rfl); (have hl := fun (wx : World) (hb : Below w.heap.size w wx) => (h1.kept (grown_of_below hb) (by simp)).look_ok strKeyed Try.underlying99 (hz wx) (show heldR .nilFunc = some (.held .nilFunc, []) from rfl) hkey)
  constructor
  · intro hn wx hb
    obtain ⟨v, ps, hrun, hv⟩ := hl wx hb; (have hh : Maps.has D (.string a.data.toList) = false := by rw [h2, hn]; rfl); rw [atKey_of_not_has hh] at hv; rw [hh] at hrun; unfold heldR at hv; simp only [Option.some.injEq, Prod.mk.injEq, DataW.held.injEq] at hv; rw [hv.1] at hrun; exact hrun
  · intro q hq
    obtain ⟨v, B, hat, hr⟩ := h3 _ q hq; (refine ⟨v, B, hr, fun wx hb => ?_⟩); obtain ⟨v', ps, hrun, hv⟩ := hl wx hb; (have hh : Maps.has D (.string a.data.toList) = true := by rw [h2, hq]; rfl); rw [hat] at hv; rw [hh] at hrun; unfold heldR at hv; simp only [Option.some.injEq, Prod.mk.injEq, DataW.held.injEq] at hv; rw [hv.1] at hrun; exact hrun
end Go.Proofs.Ytmahgfgndfcmpab
