/- The plain mathematics of layer 1, six: what is read is as it should be. -/
import Derived.Test.YtheaohoajgeomaaMath5
namespace Go.Proofs.Ytheaohoajgeomaa

theorem fine_leaf (k : Int) (h : k = 2 ∨ k = 3) : Fine (.mk k e0 []) :=
  Fine.mk _ _ _ (by rcases h with rfl | rfl <;> decide) (fun i f hf => by simp at hf)
theorem fine_one (k : Int) (f : Fm) (h : k = 4 ∨ k = 8 ∨ k = 9) (hf : Fine f) : Fine (.mk k e0 [f]) :=
  Fine.mk _ _ _ (by rcases h with rfl | rfl | rfl <;> (show nodeF _ e0 1 = none; decide)) (fun i g hg => by
    cases i with
    | zero => simp at hg; subst hg; exact hf
    | succ i => simp at hg)
theorem fine_two (k : Int) (f g : Fm) (h : k = 5 ∨ k = 6 ∨ k = 7) (hf : Fine f) (hg : Fine g) : Fine (.mk k e0 [f, g]) :=
  Fine.mk _ _ _ (by rcases h with rfl | rfl | rfl <;> (show nodeF _ e0 2 = none; decide)) (fun i x hx => by
    match i, hx with
    | 0, hx => simp at hx; subst hx; exact hf
    | 1, hx => simp at hx; subst hx; exact hg
    | i + 2, hx => simp at hx)
theorem fine_name {l : List UInt8} (h : isNm l = true) : Fine (nmF l) :=
  Fine.mk _ _ _ (by
    have : nodeF 1 ⟨l.toArray⟩ 0 = none := by simp [nodeF, kindB, kidsN, nameB, h]
    exact this) (fun i f hf => by simp at hf)

def Res.fine : Res → Prop
  | .ok f _ => Fine f
  | .bad _ => True

theorem fine_mName (l : List UInt8) : (mName l).fine := by
  simp only [mName]
  split
  · rename_i h; exact fine_name h
  · trivial
theorem fine_un {k : Int} (h : k = 4 ∨ k = 8 ∨ k = 9) (x : Res) (hx : x.fine) : (x.un k).fine := by
  cases x with
  | ok f r => exact fine_one k f h hx
  | bad r => trivial
theorem fine_shut (x : Res) (hx : x.fine) : x.shut.fine := by
  cases x with
  | ok f r =>
    simp only [Res.shut]
    split
    · exact hx
    · trivial
  | bad r => trivial

theorem fine_fuel : ∀ k, (∀ l x, mNot k l = some x → x.fine) ∧ (∀ l x, mAnd k l = some x → x.fine) ∧ (∀ g l x, Fine g → mAnds k g l = some x → x.fine) ∧ (∀ l x, mOr k l = some x → x.fine) ∧ (∀ g l x, Fine g → mOrs k g l = some x → x.fine) ∧ (∀ l x, mThen k l = some x → x.fine)
  | 0 => by
    refine ⟨?_, ?_, ?_, ?_, ?_, ?_⟩
    · intro l x h; rw [mNot] at h; cases h
    · intro l x h; rw [mAnd] at h; cases h
    · intro g l x _ h; rw [mAnds] at h; cases h
    · intro l x h; rw [mOr] at h; cases h
    · intro g l x _ h; rw [mOrs] at h; cases h
    · intro l x h; rw [mThen] at h; cases h
  | k + 1 => by
    obtain ⟨hN, hA, hAs, hO, hOs, hT⟩ := fine_fuel k
    refine ⟨?_, ?_, ?_, ?_, ?_, ?_⟩
    · intro l x h
      rw [mNot] at h
      split at h
      · obtain ⟨y, hy, rfl⟩ := Option.map_eq_some_iff.1 h
        exact fine_un (by simp) _ (hN _ _ hy)
      · split at h
        · obtain ⟨y, hy, rfl⟩ := Option.map_eq_some_iff.1 h
          exact fine_un (by simp) _ (hN _ _ hy)
        · split at h
          · obtain ⟨y, hy, rfl⟩ := Option.map_eq_some_iff.1 h
            exact fine_un (by simp) _ (hN _ _ hy)
          · split at h
            · obtain ⟨y, hy, rfl⟩ := Option.map_eq_some_iff.1 h
              exact fine_shut _ (hT _ _ hy)
            · split at h
              · cases h; exact fine_leaf 2 (by simp)
              · split at h
                · cases h; exact fine_leaf 3 (by simp)
                · cases h; exact fine_mName l
    · intro l x h
      rw [mAnd] at h
      split at h
      · cases h
      · cases h; trivial
      · rename_i f r hf; exact hAs f r x (hN _ _ hf) h
    · intro g l x hg h
      rw [mAnds] at h
      split at h
      · cases h; exact hg
      · split at h
        · cases h
        · cases h; trivial
        · rename_i f r hf; exact hAs _ r x (fine_two 5 g f (by simp) hg (hN _ _ hf)) h
    · intro l x h
      rw [mOr] at h
      split at h
      · cases h
      · cases h; trivial
      · rename_i f r hf; exact hOs f r x (hA _ _ hf) h
    · intro g l x hg h
      rw [mOrs] at h
      split at h
      · cases h; exact hg
      · split at h
        · cases h
        · cases h; trivial
        · rename_i f r hf; exact hOs _ r x (fine_two 6 g f (by simp) hg (hA _ _ hf)) h
    · intro l x h
      rw [mThen] at h
      split at h
      · cases h
      · cases h; trivial
      · rename_i f r hf
        split at h
        · cases h; exact hO _ (.ok f r) hf
        · split at h
          · cases h
          · cases h; trivial
          · rename_i g r2 hg; cases h; exact fine_two 7 f g (by simp) (hO _ (.ok f r) hf) (hT _ (.ok g r2) hg)

theorem ev_fine {l : List UInt8} {f : Fm} {r : List UInt8} (h : Ev (mThen · l) (.ok f r)) : Fine f := by
  obtain ⟨N, hN⟩ := h
  exact (fine_fuel N).2.2.2.2.2 l (.ok f r) (hN N (Nat.le_refl _))

mutual
theorem chk_fine : ∀ (f : Fm) (s : Nat), Fine f → s + f.size ≤ 200 → chk f s = .ok (s + f.size)
  | .mk k n ks, s, h, hs => by
    rw [Fm.size] at hs
    rw [chk, if_neg (by omega), h.node, Fm.size]
    have := chks_fine ks (s + 1) (h.kid) (by omega)
    simp only [this]
    congr 1; omega
theorem chks_fine : ∀ (fs : List Fm) (s : Nat), (∀ (i : Nat) (f : Fm), fs[i]? = some f → Fine f) → s + Fm.sizes fs ≤ 200 → chks fs s = .ok (s + Fm.sizes fs)
  | [], s, _, _ => by rw [chks, Fm.sizes]; rfl
  | f :: fs, s, h, hs => by
    rw [Fm.sizes] at hs
    rw [chks, chk_fine f s (h 0 f rfl) (by omega), Fm.sizes]
    have := chks_fine fs (s + f.size) (fun i g hg => h (i + 1) g (by simpa using hg)) (by omega)
    simp only [this]
    congr 1; omega
end
end Go.Proofs.Ytheaohoajgeomaa
