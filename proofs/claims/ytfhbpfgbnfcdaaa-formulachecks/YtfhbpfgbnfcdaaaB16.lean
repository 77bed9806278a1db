/- Texts of one proof, one behind the other: Dec1. -/
import Derived.Test.YtfhbpfgbnfcdaaaB08
import Derived.Test.YtfhbpfgbnfcdaaaB13
/- Whether a part is written in brackets, by reading. -/
namespace Go.Proofs.Ytfhbpfgbnfcdaaa

/-- Is what was read a node of that kind that has g for its k-th part? -/
def decO (o : Out) (c : Int) (k : Nat) (g : Fm) : Bool := match o with
  | .ok G => decide (G.kind = c) && (match G.kids[k]? with | some h => sameB h g | none => false)
  | .fault _ _ => false

theorem sameB_ne {f g : Fm} (h : f.size ≠ g.size) : sameB f g = false := by
  rcases hs : sameB f g with _ | _
  · rfl
  · rw [sameB_eq f g hs] at h; exact absurd rfl h

theorem decO_ok (n : Nat) (c : Int) (k : Nat) (g F : Fm) (hs : F.size ≤ 200) (hk : F.kind = c) (hg : F.kids[k]? = some g) : decO (outOf n (.ok F [])) c k g = true := by
  (have h2 : ¬ 200 < F.size := by omega); simp [outOf, skipB, h2, decO, hk, hg, sameB_refl]
theorem decO_kind (n : Nat) (c : Int) (k : Nat) (g F : Fm) (r : List UInt8) (hk : F.kind ≠ c) : decO (outOf n (.ok F r)) c k g = false := by
  rw [outOf]
  split
  · split
    · rfl
    · simp [decO, hk]
  · rfl
theorem decO_kid (n : Nat) (c : Int) (k : Nat) (g F h : Fm) (r : List UInt8) (hk : F.kids[k]? = some h) (hs : h.size ≠ g.size) : decO (outOf n (.ok F r)) c k g = false := by
  rw [outOf]
  split
  · split
    · rfl
    · simp [decO, hk, sameB_ne hs]
  · rfl

theorem pr0_of {a : Int} {f : Fm} (h : a ≤ bindI f.kind) : pr a f = pr 0 f := by
  rw [pr_brk, decide_eq_true h]; rfl

/-- A part behind a sign of its own. -/
theorem dec_un {c : Int} (hc : c = 4 ∨ c = 8 ∨ c = 9) {g : Fm} (hg : Fine g) (hs : g.size + 1 ≤ 200) : ∃ x, Ev (mThen · (sign1 c ++ pr 0 g)) x ∧ ∀ n, decO (outOf n x) c 0 g = decide (3 ≤ bindI g.kind) := by
  (have h567 : ∀ b : Int, b = 5 ∨ b = 6 ∨ b = 7 → b ≠ c := by intro b hb e; rcases hb with rfl | rfl | rfl <;> omega)
  rcases bind_cases g hg with h3 | ⟨l, r, rfl, hl, hr⟩ | ⟨l, r, rfl, hl, hr⟩ | ⟨l, r, rfl, hl, hr⟩
  · refine ⟨.ok (.mk c e0 [g]) [], ?_, fun n => ?_⟩
    · have := read_back (fine_one c g hc hg)
      have e : pr 0 (.mk c e0 [g]) = sign1 c ++ pr 0 g := by
        (rw [pr_zero, bareS, pr0_of (a := 3) (f := g) (by omega)])
      rwa [e] at this
    · rw [decO_ok n c 0 g _ (by rw [size_one]; omega) rfl rfl, h3]; rfl
  · obtain ⟨F, hF⟩ := read_five (base_un hc) hl hr
    (exact ⟨_, hF, fun n => (decO_kind n c 0 _ (.mk 5 e0 [F, r]) _ (h567 5 (by simp))).trans rfl⟩)
  · obtain ⟨F, hF⟩ := read_six (base1_of (base_un hc)) hl hr
    (exact ⟨_, hF, fun n => (decO_kind n c 0 _ (.mk 6 e0 [F, r]) _ (h567 6 (by simp))).trans rfl⟩)
  · obtain ⟨F, hF⟩ := read_seven (base1_of (base_un hc)) hl hr
    (exact ⟨_, hF, fun n => (decO_kind n c 0 _ (.mk 7 e0 [F, r]) _ (h567 7 (by simp))).trans rfl⟩)

theorem pr_a (a : Int) : pr a (nmF [97]) = if a ≤ 3 then [97] else [40, 97, 41] := by
  rw [nmF, pr]; by_cases h : a ≤ 3
  · simp [h, brk, bindI, leafS]
  · simp [h, brk, bindI, leafS]

/-- A part at the right. -/
theorem dec_right {c : Int} (hc : c = 5 ∨ c = 6 ∨ c = 7) {g : Fm} (hg : Fine g) (hs : g.size + 2 ≤ 200) : ∃ x, Ev (mThen · ([97] ++ sign2 c ++ pr 0 g)) x ∧ ∀ n, decO (outOf n x) c 1 g = decide (rightB c ≤ bindI g.kind) := by
  by_cases hb : rightB c ≤ bindI g.kind
  · refine ⟨.ok (.mk c e0 [nmF [97], g]) [], ?_, fun n => ?_⟩
    · have := read_back (fine_two c (nmF [97]) g hc a_fine hg)
      have e : pr 0 (.mk c e0 [nmF [97], g]) = [97] ++ sign2 c ++ pr 0 g := by
        (rw [pr_zero, bareS, pr0_of hb, pr_a, if_pos (by rcases hc with rfl | rfl | rfl <;> decide)])
      rwa [e] at this
    · rw [decO_ok n c 1 g _ (by rw [size_two, nmF, size_leaf]; omega) rfl rfl, decide_eq_true hb]
  · rw [decide_eq_false hb]
    rcases bind_cases g hg with h3 | ⟨l, r, rfl, hl, hr⟩ | ⟨l, r, rfl, hl, hr⟩ | ⟨l, r, rfl, hl, hr⟩
    · exfalso; rcases hc with rfl | rfl | rfl <;> (rw [h3] at hb; revert hb; decide)
    · obtain rfl : c = 5 := by rcases hc with rfl | rfl | rfl <;> first | rfl | (exfalso; revert hb; simp [rightB, bindI, Fm.kind])
      obtain ⟨F, hF⟩ := read_five base_and hl hr; (exact ⟨_, hF, fun n => decO_kid n 5 1 _ _ r _ rfl (by rw [size_two]; omega)⟩)
    · rcases hc with rfl | rfl | rfl
      · obtain ⟨F, hF⟩ := read_six (base1_of base_and) hl hr
        (exact ⟨_, hF, fun n => decO_kind n 5 1 _ _ _ (by simp [Fm.kind])⟩)
      · obtain ⟨F, hF⟩ := read_six base_or hl hr
        (exact ⟨_, hF, fun n => decO_kid n 6 1 _ _ r _ rfl (by rw [size_two]; omega)⟩)
      · exfalso; revert hb; simp [rightB, bindI, Fm.kind]
    · rcases hc with rfl | rfl | rfl
      · obtain ⟨F, hF⟩ := read_seven (base1_of base_and) hl hr
        (exact ⟨_, hF, fun n => decO_kind n 5 1 _ _ _ (by simp [Fm.kind])⟩)
      · obtain ⟨F, hF⟩ := read_seven base_or hl hr
        (exact ⟨_, hF, fun n => decO_kind n 6 1 _ _ _ (by simp [Fm.kind])⟩)
      · exfalso; revert hb; simp [rightB, bindI, Fm.kind]

/-- A part at the left. -/
theorem dec_left {c : Int} (hc : c = 5 ∨ c = 6 ∨ c = 7) {g : Fm} (hg : Fine g) (hs : g.size + 2 ≤ 200) : ∃ x, Ev (mThen · (pr 0 g ++ (sign2 c ++ [97]))) x ∧ ∀ n, decO (outOf n x) c 0 g = decide (leftB c ≤ bindI g.kind) := by
  by_cases hb : leftB c ≤ bindI g.kind
  · refine ⟨.ok (.mk c e0 [g, nmF [97]]) [], ?_, fun n => ?_⟩
    · have := read_back (fine_two c g (nmF [97]) hc hg a_fine)
      have e : pr 0 (.mk c e0 [g, nmF [97]]) = pr 0 g ++ (sign2 c ++ [97]) := by
        (rw [pr_zero, bareS, pr0_of hb, pr_a, if_pos (by rcases hc with rfl | rfl | rfl <;> decide), List.append_assoc])
      rwa [e] at this
    · rw [decO_ok n c 0 g _ (by rw [size_two, nmF, size_leaf]; omega) rfl rfl, decide_eq_true hb]
  · rw [decide_eq_false hb]
    rcases bind_cases g hg with h3 | ⟨l, r, rfl, hl, hr⟩ | ⟨l, r, rfl, hl, hr⟩ | ⟨l, r, rfl, hl, hr⟩
    · exfalso; rcases hc with rfl | rfl | rfl <;> (rw [h3] at hb; revert hb; decide)
    · exfalso; rcases hc with rfl | rfl | rfl <;> (revert hb; simp [leftB, bindI, Fm.kind])
    · obtain rfl : c = 5 := by rcases hc with rfl | rfl | rfl <;> first | rfl | (exfalso; revert hb; simp [leftB, bindI, Fm.kind])
      (refine ⟨.ok (.mk 6 e0 [l, .mk 5 e0 [r, nmF [97]]]) [], ?_, fun n => decO_kind n 5 0 _ _ _ (by simp [Fm.kind])⟩); (have := read_back (fine_two 6 l (.mk 5 e0 [r, nmF [97]]) (by simp) hl (fine_two 5 r (nmF [97]) (by simp) hr a_fine)))
      have e : pr 0 (.mk 6 e0 [l, .mk 5 e0 [r, nmF [97]]]) = pr 0 (.mk 6 e0 [l, r]) ++ (sign2 5 ++ [97]) := by
        (rw [pr_zero, bareS, pr_zero, bareS, pr0_of (a := rightB 6) (f := .mk 5 e0 [r, nmF [97]]) (by simp [rightB, bindI, Fm.kind]), pr_zero, bareS, pr_a, if_pos (by decide)]); simp [rightB, leftB]
      rwa [e] at this
    · have e : pr 0 (.mk 7 e0 [l, r]) ++ (sign2 c ++ [97]) = pr 1 l ++ (32 :: 45 :: 62 :: 32 :: (pr 0 r ++ (sign2 c ++ [97]))) := pr0_seven l r _
      rw [e]
      have hO : Ev (mOr · (pr 1 l ++ (32 :: 45 :: 62 :: 32 :: (pr 0 r ++ (sign2 c ++ [97]))))) (.ok l _) :=
        (back_of hl).2.2.1 _ _ (stop_one _ _ rfl) (by rw [takeS_blank]; exact takeS_head rfl rfl) (ev_ors_no (by rw [takeS_skip, takeS_blank]; exact takeS_head rfl rfl))
      have ht : takeS [45, 62] (skipB (skipB (32 :: 45 :: 62 :: 32 :: (pr 0 r ++ (sign2 c ++ [97]))))) = some (32 :: (pr 0 r ++ (sign2 c ++ [97]))) := by
        rw [takeS_skip, takeS_skip, takeS_blank]; simp [takeS, skipB, blank]
      obtain ⟨x, hx, -⟩ := (tot_all _).2 (32 :: (pr 0 r ++ (sign2 c ++ [97]))) (Nat.le_refl _)
      cases x with
      | bad q => exact ⟨_, ev_then_bad2 hO ht hx, fun n => rfl⟩
      | ok X q => exact ⟨_, ev_then_ok hO ht hx, fun n => decO_kid n c 0 _ _ l _ rfl (by rw [size_two]; omega)⟩

/-- What is written of a part: in brackets, if it would be read otherwise without them. -/
theorem brk_pr (a : Int) (g : Fm) : brk (decide (a ≤ bindI g.kind)) (pr 0 g) = pr a g := (pr_brk a g).symm
end Go.Proofs.Ytfhbpfgbnfcdaaa
