/- Walks: reading by climbing: what it leaves; ranks of signs. -/
import Derived.Test.YtheaohoajgeomaaTok1
import Derived.Test.YtheaohoajgeomaaMath8
namespace Go.Proofs.Ytheaohoajgeomaa
open Go.RowKit

def rk (l : List UInt8) : Int := if l = [45, 62] then 1 else if l = [124] then 2 else if l = [38] then 3 else 0

set_option maxHeartbeats 1000000 in
theorem rank_any (s : ByteArray) (w : World) :
    Calls Try.prog 66 #[.string s] w fun e w' => e = .returned (.int .i64 (rk s.data.toList)) ∧ w' = w := by
  go_enter Try.func66, Try.ntmps66
  go_wp2
  all_goals
    go_ret
    refine ⟨ret_int ?_, rfl⟩
    simp only [ByteArray.toList_eq, beq_iff_eq, beq_eq_false_iff_ne, ne_eq] at *
    simp_all [rk]

theorem tok_excl {j k : Nat} (hj : j < 10) (hk : k < 10) (hjk : sg j ≠ sg k) {l q : List UInt8} (h : takeS (sg k) l = some q) : takeS (sg j) l = none := by
  rcases hh : takeS (sg j) l with _ | r
  · rfl
  · have a := tok_sign hk h
    have b := tok_sign hj hh
    rw [a] at b
    exact absurd (Prod.mk.inj b).1.symm hjk

theorem signAt_some : ∀ (m k : Nat) (r : List UInt8) (j : Nat), signAt m k r = some j → k ≤ j ∧ j < k + m ∧ (sg j).isPrefixOf r = true
  | 0, k, r, j, h => by rw [signAt] at h; cases h
  | m + 1, k, r, j, h => by
    rw [signAt] at h
    split at h
    · rename_i hp; cases h; exact ⟨Nat.le_refl _, by omega, hp⟩
    · obtain ⟨h1, h2, h3⟩ := signAt_some m (k + 1) r j h
      exact ⟨by omega, by omega, h3⟩

theorem rk_none {l : List UInt8} (h1 : takeS [38] l = none) (h2 : takeS [124] l = none) (h3 : takeS [45, 62] l = none) : rk (tok l).1 = 0 := by
  have pf : ∀ s, takeS s l = none → s.isPrefixOf (skipB l) = false := fun s h => by
    unfold takeS at h
    split at h
    · cases h
    · rename_i hp; exact Bool.eq_false_iff.2 hp
  unfold tok
  simp only
  split
  · rfl
  · split
    · rename_i k hk
      have p1 := pf _ h1
      have p2 := pf _ h2
      have p3 := pf _ h3
      obtain ⟨-, hk10, hkp⟩ := signAt_some 10 0 _ k hk
      have : k = 0 ∨ k = 1 ∨ k = 2 ∨ k = 3 ∨ k = 4 ∨ k = 5 ∨ k = 6 ∨ k = 7 ∨ k = 8 ∨ k = 9 := by omega
      rcases this with e | e | e | e | e | e | e | e | e | e <;> subst e
      · exact absurd (hkp.symm.trans p3) (by decide)
      · show rk (sg 1) = 0; decide
      · show rk (sg 2) = 0; decide
      · show rk (sg 3) = 0; decide
      · exact absurd (hkp.symm.trans p1) (by decide)
      · exact absurd (hkp.symm.trans p2) (by decide)
      · show rk (sg 6) = 0; decide
      · show rk (sg 7) = 0; decide
      · show rk (sg 8) = 0; decide
      · show rk (sg 9) = 0; decide
    · split
      · rename_i hn
        have hp := isNm_bd hn
        have hl : letters (skipB l) ≠ [45, 62] ∧ letters (skipB l) ≠ [124] ∧ letters (skipB l) ≠ [38] := by
          have aux : ∀ (c : UInt8) (m : List UInt8), lower c = false → letters (skipB l) ≠ c :: m := fun c m hc e => by
            cases h : skipB l with
            | nil => rw [h, letters] at e; cases e
            | cons d n =>
              rw [h, letters] at e
              split at e
              · rename_i hd
                rw [(List.cons.inj e).1, hc] at hd; cases hd
              · cases e
          exact ⟨aux _ _ rfl, aux _ _ rfl, aux _ _ rfl⟩
        simp only [rk, hl.1, hl.2.1, hl.2.2, if_false]
      · rfl

theorem sg_head (k : Nat) (hk : k < 10) : ∃ c m, sg k = c :: m ∧ lower c = false ∧ c ≠ 63 := by
  have : k = 0 ∨ k = 1 ∨ k = 2 ∨ k = 3 ∨ k = 4 ∨ k = 5 ∨ k = 6 ∨ k = 7 ∨ k = 8 ∨ k = 9 := by omega
  rcases this with e | e | e | e | e | e | e | e | e | e <;> subst e <;> exact ⟨_, _, rfl, by decide, by decide⟩

theorem letters_head {l : List UInt8} {c : UInt8} {m : List UInt8} (h : letters l = c :: m) : lower c = true := by
  cases l with
  | nil => rw [letters] at h; cases h
  | cons d n =>
    rw [letters] at h
    split at h
    · rename_i hd; rw [← (List.cons.inj h).1]; exact hd
    · cases h

/-- A token that reads as a sign is that sign. -/
theorem tok_conv {k : Nat} (hk : k < 10) {l : List UInt8} (h : (tok l).1 = sg k) : ∃ q, takeS (sg k) l = some q := by
  obtain ⟨c, m, hc, hl, hq⟩ := sg_head k hk
  unfold tok at h
  simp only at h
  split at h
  · rw [hc] at h; cases h
  · split at h
    · rename_i j hj
      have hp := (signAt_some 10 0 _ j hj).2.2
      have h : sg j = sg k := h
      rw [h] at hp
      exact ⟨_, by unfold takeS; rw [if_pos hp]⟩
    · split at h
      · have h : letters (skipB l) = sg k := h
        rw [hc] at h
        have := letters_head h
        rw [hl] at this; cases this
      · have h : [63] = sg k := h
        rw [hc] at h
        exact absurd (List.cons.inj h).1.symm hq
theorem tok_ne {k : Nat} (hk : k < 10) {l : List UInt8} (h : takeS (sg k) l = none) : ((tok l).1 == sg k) = false := by
  rw [beq_eq_false_iff_ne]
  intro e
  obtain ⟨q, hq⟩ := tok_conv hk e
  rw [h] at hq; cases hq

/-- A name that stands first. -/
theorem tok_name {l : List UInt8} (h : isNm (letters (skipB l)) = true) : tok l = (letters (skipB l), skipB l, (skipB l).drop (letters (skipB l)).length) := by
  have hb := isNm_bd h
  obtain ⟨c, m, hc⟩ : ∃ c m, letters (skipB l) = c :: m := by
    cases hh : letters (skipB l) with
    | nil => rw [hh] at hb; simp at hb
    | cons c m => exact ⟨c, m, rfl⟩
  have hlow := letters_head hc
  obtain ⟨n, hn⟩ : ∃ n, skipB l = c :: n := by
    cases hs : skipB l with
    | nil => rw [hs, letters] at hc; cases hc
    | cons d n =>
      rw [hs, letters] at hc
      split at hc
      · exact ⟨n, by rw [(List.cons.inj hc).1]⟩
      · cases hc
  have hsg : signAt 10 0 (skipB l) = none := by
    have aux : ∀ k, k < 10 → (sg k).isPrefixOf (skipB l) = false := fun k hk => by
      obtain ⟨d, p, hd, hld, -⟩ := sg_head k hk
      rw [hd, hn, List.isPrefixOf, lower_ne hlow hld]; rfl
    simp [signAt, aux]
  have hne : skipB l ≠ [] := by rw [hn]; simp
  simp only [tok, hne, if_false, hsg, h, if_true]

/-- Neither a sign that may stand first nor a name. -/
theorem tok_other {l : List UInt8} (hn : isNm (letters (skipB l)) = false) : isNm (tok l).1 = false := by
  unfold tok
  simp only
  split
  · rfl
  · split
    · rename_i k hk
      have hk10 := (signAt_some 10 0 _ k hk).2.1
      have : k = 0 ∨ k = 1 ∨ k = 2 ∨ k = 3 ∨ k = 4 ∨ k = 5 ∨ k = 6 ∨ k = 7 ∨ k = 8 ∨ k = 9 := by omega
      show isNm (sg k) = false
      rcases this with e | e | e | e | e | e | e | e | e | e <;> subst e <;> decide
    · rw [hn]; rfl

/-- What a climb leaves. -/
def CPost (least : Nat) (t : ByteArray) (l : List UInt8) (w : World) (e : Ending) (w' : World) : Prop :=
  Below w.heap.size w w' ∧ ((∃ f r v a' r', Ev (tgt least · l) (.ok f r) ∧ e = .returned (.tuple #[v, .int .i64 (a' : Nat), .int .i64 (-1)]) ∧ Rep w' (w.heap.size ≤ ·) f v ∧ At t a' r' ∧ skipB r' = skipB r ∧ r'.length ≤ l.length) ∨
    (∃ r g v a', Ev (tgt least · l) (.bad r) ∧ e = .returned (.tuple #[v, .int .i64 0, .int .i64 (a' : Nat)]) ∧ At t a' r ∧ Rep w' (w.heap.size ≤ ·) g v))

def Climbs (t : ByteArray) (m : Nat) : Prop := ∀ (least a : Nat) (l : List UInt8) (w : World), 1 ≤ least → least ≤ 4 → At t a l → l.length < m →
  Calls Try.prog 41 #[.string t, .int .i64 a, .int .i64 least] w (CPost least t l w)

theorem eqv_ok {y : Res} {f : Fm} {l : List UInt8} (h : eqv y (.ok f (skipB l))) : ∃ r, y = .ok f r ∧ skipB l = skipB r := by
  cases y with
  | ok g r => exact ⟨r, by rw [h.1], by rw [h.2, skipB_idem]⟩
  | bad r => exact absurd h (fun h => h.elim)
theorem eqv_bad {y : Res} {r : List UInt8} (h : eqv y (.bad r)) : y = .bad r := by
  cases y with
  | ok g s => exact absurd h (fun h => h.elim)
  | bad s => rw [show s = r from h]
end Go.Proofs.Ytheaohoajgeomaa
