/- Texts of one proof, one behind the other: Math10. -/
import Derived.Test.YtfhbpfgbnfcdaaaB06
/- The plain mathematics of layer 1, ten: brackets are written just where the formula would be read otherwise. -/
namespace Go.Proofs.Ytfhbpfgbnfcdaaa

theorem pr_zero (f : Fm) : pr 0 f = bareS f := by
  rw [pr_bare]; (have : (0 : Int) ≤ bindI f.kind := by unfold bindI; split <;> (try split) <;> (try split) <;> decide); simp [brk, this]
theorem pr_brk (a : Int) (f : Fm) : pr a f = brk (decide (a ≤ bindI f.kind)) (pr 0 f) := by rw [pr_zero, pr_bare]

/-- Ahead of what is written for f stands P: what is read where 'and' binds goes on with some formula. -/
def A2 (P : List UInt8) (f : Fm) : Prop := ∃ F, ∀ rest x, Stop rest → Ev (mAnds · F rest) x → Ev (mAnd · (P ++ (pr 2 f ++ rest))) x
def O1 (P : List UInt8) (f : Fm) : Prop := ∃ F, ∀ rest x, Stop rest → takeS [38] rest = none → Ev (mOrs · F (skipB rest)) x → Ev (mOr · (P ++ (pr 1 f ++ rest))) x

theorem o1_of_a2 {P : List UInt8} {f : Fm} (he : pr 1 f = pr 2 f) (h : A2 P f) : O1 P f := by
  obtain ⟨F, hF⟩ := h; (exact ⟨F, fun rest x hs h1 hx => by rw [he]; exact ev_or_ok (hF rest _ hs (ev_ands_no h1)) hx⟩)

theorem pr2_five (g h : Fm) (rest : List UInt8) : pr 2 (.mk 5 e0 [g, h]) ++ rest = pr 2 g ++ (32 :: 38 :: 32 :: (pr 3 h ++ rest)) := by
  rw [pr_bare]; show (pr 2 g ++ [32, 38, 32] ++ pr 3 h) ++ rest = _
  simp
theorem pr1_six (g h : Fm) (rest : List UInt8) : pr 1 (.mk 6 e0 [g, h]) ++ rest = pr 1 g ++ (32 :: 124 :: 32 :: (pr 2 h ++ rest)) := by
  rw [pr_bare]; show (pr 1 g ++ [32, 124, 32] ++ pr 2 h) ++ rest = _
  simp
theorem pr0_seven (g h : Fm) (rest : List UInt8) : pr 0 (.mk 7 e0 [g, h]) ++ rest = pr 1 g ++ (32 :: 45 :: 62 :: 32 :: (pr 0 h ++ rest)) := by
  rw [pr_bare]; show (pr 1 g ++ [32, 45, 62, 32] ++ pr 0 h) ++ rest = _
  simp

theorem ands_five {F h : Fm} (nh : AN h) {rest : List UInt8} {x : Res} (hs : Stop rest) (hx : Ev (mAnds · (.mk 5 e0 [F, h]) rest) x) : Ev (mAnds · F (32 :: 38 :: 32 :: (pr 3 h ++ rest))) x := by
  refine ev_ands_ok (r := 32 :: (pr 3 h ++ rest)) ?_ (ev_blank mNot_blank (nh rest hs)) hx; rw [takeS_blank]; simp [takeS, skipB, blank]
theorem ors_six {F h : Fm} (ah : AA h) {rest : List UInt8} {x : Res} (hs : Stop rest) (h1 : takeS [38] rest = none) (hx : Ev (mOrs · (.mk 6 e0 [F, h]) (skipB rest)) x) : Ev (mOrs · F (skipB (32 :: 124 :: 32 :: (pr 2 h ++ rest)))) x := by
  refine ev_ors_ok (r := 32 :: (pr 2 h ++ rest)) (r1 := skipB rest) ?_ (ev_blank mAnd_blank (ah rest _ hs (ev_ands_no h1))) hx; rw [takeS_skip, takeS_blank]; simp [takeS, skipB, blank]

theorem a2_five {P : List UInt8} {g h : Fm} (ag : A2 P g) (nh : AN h) : A2 P (.mk 5 e0 [g, h]) := by
  obtain ⟨F, hF⟩ := ag; (refine ⟨.mk 5 e0 [F, h], fun rest x hs hx => ?_⟩); rw [pr2_five]; exact hF _ x (stop_one _ _ rfl) (ands_five nh hs hx)
theorem o1_six {P : List UInt8} {g h : Fm} (og : O1 P g) (ah : AA h) : O1 P (.mk 6 e0 [g, h]) := by
  obtain ⟨F, hF⟩ := og; (refine ⟨.mk 6 e0 [F, h], fun rest x hs h1 hx => ?_⟩); rw [pr1_six]; (exact hF _ x (stop_one _ _ rfl) (by rw [takeS_blank]; exact takeS_head rfl rfl) (ors_six ah hs h1 hx))

theorem bind_cases (f : Fm) (hf : Fine f) : bindI f.kind = 3 ∨ (∃ g h, f = .mk 5 e0 [g, h] ∧ Fine g ∧ Fine h) ∨ (∃ g h, f = .mk 6 e0 [g, h] ∧ Fine g ∧ Fine h) ∨ (∃ g h, f = .mk 7 e0 [g, h] ∧ Fine g ∧ Fine h) := by
  rcases hf.forms with ⟨n, rfl, hn⟩ | rfl | rfl | ⟨k, g, hk, rfl, hg⟩ | ⟨k, g, g', hk, rfl, hg, hg'⟩
  · exact Or.inl rfl
  · exact Or.inl rfl
  · exact Or.inl rfl
  · rcases hk with rfl | rfl | rfl <;> exact Or.inl rfl
  · rcases hk with rfl | rfl | rfl
    · exact Or.inr (Or.inl ⟨g, g', rfl, hg, hg'⟩)
    · exact Or.inr (Or.inr (Or.inl ⟨g, g', rfl, hg, hg'⟩))
    · exact Or.inr (Or.inr (Or.inr ⟨g, g', rfl, hg, hg'⟩))

theorem back_of {f : Fm} (hf : Fine f) : AN f ∧ AA f ∧ AO f ∧ AT f := back_all f.size f (Nat.le_refl _) hf

/-- A prefix of a place where 'not' binds. -/
def Base2 (P : List UInt8) : Prop := ∀ f, AN f → ∃ F, ∀ rest x, Stop rest → Ev (mAnds · F rest) x → Ev (mAnd · (P ++ (pr 3 f ++ rest))) x

theorem a2_all {P : List UInt8} (hP : Base2 P) : ∀ (m : Nat) (f : Fm), f.size ≤ m → Fine f → A2 P f
  | 0, .mk k n ks, h, _ => by rw [Fm.size] at h; omega
  | m + 1, f, h, hf => by
    have hb := back_of hf
    rcases bind_cases f hf with h3 | ⟨g, g', rfl, hg, hg'⟩ | ⟨g, g', rfl, hg, hg'⟩ | ⟨g, g', rfl, hg, hg'⟩
    · have e : pr 2 f = pr 3 f := bind_pr (by omega)
      unfold A2; rw [e]; exact hP f hb.1
    · rw [size_two] at h
      (exact a2_five (a2_all hP m g (by omega) hg) (back_of hg').1)
    · have e : pr 2 (.mk 6 e0 [g, g']) = pr 3 (.mk 6 e0 [g, g']) := bind_pr (by simp [Fm.kind, bindI])
      unfold A2; rw [e]; exact hP _ hb.1
    · have e : pr 2 (.mk 7 e0 [g, g']) = pr 3 (.mk 7 e0 [g, g']) := bind_pr (by simp [Fm.kind, bindI])
      unfold A2; rw [e]; exact hP _ hb.1

/-- A prefix of a place where 'and' binds. -/
def Base1 (P : List UInt8) : Prop := ∀ f, Fine f → pr 1 f = pr 2 f → O1 P f
theorem base1_of {P : List UInt8} (hP : Base2 P) : Base1 P := fun f hf he => o1_of_a2 he (a2_all hP f.size f (Nat.le_refl _) hf)

theorem o1_all {P : List UInt8} (hP : Base1 P) : ∀ (m : Nat) (f : Fm), f.size ≤ m → Fine f → O1 P f
  | 0, .mk k n ks, h, _ => by rw [Fm.size] at h; omega
  | m + 1, f, h, hf => by
    rcases bind_cases f hf with h3 | ⟨g, g', rfl, hg, hg'⟩ | ⟨g, g', rfl, hg, hg'⟩ | ⟨g, g', rfl, hg, hg'⟩
    · exact hP f hf (bind_pr (by omega))
    · exact hP _ hf (bind_pr (by simp [Fm.kind, bindI]))
    · rw [size_two] at h
      (exact o1_six (o1_all hP m g (by omega) hg) (back_of hg').2.1)
    · exact hP _ hf (bind_pr (by simp [Fm.kind, bindI]))

theorem nil_take (s : List UInt8) (h : s ≠ []) : takeS s [] = none := by
  cases s with
  | nil => exact absurd rfl h
  | cons c s => simp [takeS, skipB]

theorem read_five {P : List UInt8} (hP : Base2 P) {g h : Fm} (hg : Fine g) (hh : Fine h) : ∃ F, Ev (mThen · (P ++ pr 0 (.mk 5 e0 [g, h]))) (.ok (.mk 5 e0 [F, h]) []) := by
  obtain ⟨F, hF⟩ := a2_all hP g.size g (Nat.le_refl _) hg; refine ⟨F, ?_⟩
  have e : pr 0 (.mk 5 e0 [g, h]) = pr 2 g ++ (32 :: 38 :: 32 :: (pr 3 h ++ [])) := by
    (rw [← pr2_five, List.append_nil]; exact bind_pr (by simp [Fm.kind, bindI]))
  rw [e]; (have a := hF (32 :: 38 :: 32 :: (pr 3 h ++ [])) (.ok (.mk 5 e0 [F, h]) []) (stop_one _ _ rfl) (ands_five (back_of hh).1 rfl (ev_ands_no (nil_take _ (by simp))))); (exact ev_then_no (ev_or_ok a (ev_ors_no (nil_take _ (by simp)))) (nil_take _ (by simp)))
theorem read_six {P : List UInt8} (hP : Base1 P) {g h : Fm} (hg : Fine g) (hh : Fine h) : ∃ F, Ev (mThen · (P ++ pr 0 (.mk 6 e0 [g, h]))) (.ok (.mk 6 e0 [F, h]) []) := by
  obtain ⟨F, hF⟩ := o1_all hP g.size g (Nat.le_refl _) hg; refine ⟨F, ?_⟩
  have e : pr 0 (.mk 6 e0 [g, h]) = pr 1 g ++ (32 :: 124 :: 32 :: (pr 2 h ++ [])) := by
    (rw [← pr1_six, List.append_nil]; exact bind_pr (by simp [Fm.kind, bindI]))
  rw [e]; (have a := hF (32 :: 124 :: 32 :: (pr 2 h ++ [])) (.ok (.mk 6 e0 [F, h]) []) (stop_one _ _ rfl) (by rw [takeS_blank]; exact takeS_head rfl rfl) (ors_six (back_of hh).2.1 rfl (nil_take _ (by simp)) (ev_ors_no (nil_take _ (by simp))))); (exact ev_then_no a (nil_take _ (by simp)))
theorem read_seven {P : List UInt8} (hP : Base1 P) {g h : Fm} (hg : Fine g) (hh : Fine h) : ∃ F, Ev (mThen · (P ++ pr 0 (.mk 7 e0 [g, h]))) (.ok (.mk 7 e0 [F, h]) []) := by
  obtain ⟨F, hF⟩ := o1_all hP g.size g (Nat.le_refl _) hg; refine ⟨F, ?_⟩; have e := pr0_seven g h []; rw [List.append_nil, List.append_nil] at e; rw [e]; (refine ev_then_ok (hF _ _ (stop_one _ _ rfl) (by rw [takeS_blank]; exact takeS_head rfl rfl) (ev_ors_no ?_)) (r1 := 32 :: pr 0 h) ?_ (ev_blank mThen_blank (read_back hh)))
  · rw [takeS_skip, takeS_blank]; exact takeS_head rfl rfl
  · rw [takeS_skip, takeS_skip, takeS_blank]
    simp [takeS, skipB, blank]

/-! The prefixes that there are. -/
theorem base_un {k : Int} (hk : k = 4 ∨ k = 8 ∨ k = 9) : Base2 (sign1 k) := fun f hf => by
  (refine ⟨.mk k e0 [f], fun rest x hs hx => ?_⟩)
  have e : sign1 k ++ (pr 3 f ++ rest) = pr 3 (.mk k e0 [f]) ++ rest := by
    rw [pr_bare 3 (.mk k e0 [f])]
    rcases hk with rfl | rfl | rfl <;> rfl
  rw [e]; exact ev_and_ok (an_un hk hf rest hs) hx
theorem nm_a : AN (nmF [97]) := an_name (by decide)
theorem a_fine : Fine (nmF [97]) := fine_name (by decide)
theorem base_and : Base2 [97, 32, 38, 32] := fun f hf => by
  (refine ⟨.mk 5 e0 [nmF [97], f], fun rest x hs hx => ?_⟩); have := nm_a (32 :: 38 :: 32 :: (pr 3 f ++ rest)) (stop_one _ _ rfl); (have e : pr 3 (nmF [97]) = [97] := by rw [nmF, pr]; rfl); rw [e] at this; exact ev_and_ok this (ands_five hf hs hx)
theorem base_or : Base1 [97, 32, 124, 32] := fun f hf he => by
  (refine ⟨.mk 6 e0 [nmF [97], f], fun rest x hs h1 hx => ?_⟩); (have := (back_of a_fine).2.2.1 (32 :: 124 :: 32 :: (pr 2 f ++ rest)) x (stop_one _ _ rfl) (by rw [takeS_blank]; exact takeS_head rfl rfl) (ors_six (back_of hf).2.1 hs h1 hx)); (have e : pr 1 (nmF [97]) = [97] := by rw [nmF, pr]; rfl); rw [e] at this; rw [he]; exact this
end Go.Proofs.Ytfhbpfgbnfcdaaa
