/- Texts of one proof, one behind the other: NTO, NTP. -/
import Derived.Test.YtealalhgkdlmkaiB30
/- Plain: plans that are moved, and nets beside and on top of each other. -/
namespace Go.Proofs.Ytealalhgkdlmkai

/-- A node as another one, its kids moved by f. -/
structure AsN (f : Nat → Nat) (x y : Nd) : Prop where
  k : y.k = x.k
  n : y.n = x.n
  g : y.g = x.g
  kids : x.k = 2 ∨ x.k = 3 → y.a = f x.a ∧ y.b = f x.b
mutual
theorem ndsF_move : ∀ (f : Lm), LFine f → ∀ (s s' j : Nat) (x : Nd), (ndsF f s)[j]? = some x → ∃ y, (ndsF f s')[j]? = some y ∧ y.k = x.k ∧ y.n = x.n ∧ y.g = x.g ∧ (x.k = 2 ∨ x.k = 3 → y.a + s = x.a + s' ∧ y.b + s = x.b + s')
  | .mk k n g ks, hf, s, s', j, x, hx => by
    rw [ndsF] at hx; rw [ndsF]
    cases j with
    | zero =>
      simp at hx; subst hx; (refine ⟨_, rfl, rfl, rfl, rfl, fun hk => ?_⟩)
      cases hf with
      | atom _ _ _ => simp at hk
      | two _ f1 f2 _ _ _ => simp only [kidA, kidB]; omega
    | succ j =>
      (have hx2 : (ndsL ks (s + 1))[j]? = some x := by simpa using hx); obtain ⟨y, h1, h2, h3, h4, h5⟩ := ndsL_move ks hf.kids (s + 1) (s' + 1) j x hx2; (refine ⟨y, by simpa using h1, h2, h3, h4, fun hk => ?_⟩); have := h5 hk; omega
theorem ndsL_move : ∀ (fs : List Lm), (∀ f ∈ fs, LFine f) → ∀ (s s' j : Nat) (x : Nd), (ndsL fs s)[j]? = some x → ∃ y, (ndsL fs s')[j]? = some y ∧ y.k = x.k ∧ y.n = x.n ∧ y.g = x.g ∧ (x.k = 2 ∨ x.k = 3 → y.a + s = x.a + s' ∧ y.b + s = x.b + s')
  | [], _, s, s', j, x, hx => by rw [ndsL] at hx; simp at hx
  | f :: fs, hf, s, s', j, x, hx => by
    rw [ndsL] at hx; rw [ndsL]; have l1 := ndsF_len f s; have l2 := ndsF_len f s'
    rcases Nat.lt_or_ge j f.size with hj | hj
    · rw [List.getElem?_append_left (by rw [l1]; exact hj)] at hx
      (obtain ⟨y, h1, h2⟩ := ndsF_move f (hf f (by simp)) s s' j x hx); (exact ⟨y, by rw [List.getElem?_append_left (by rw [l2]; exact hj)]; exact h1, h2⟩)
    · rw [List.getElem?_append_right (by rw [l1]; exact hj), l1] at hx
      (obtain ⟨y, h1, h2, h3, h4, h5⟩ := ndsL_move fs (fun g hg => hf g (by simp [hg])) (s + f.size) (s' + f.size) (j - f.size) x hx); (refine ⟨y, by rw [List.getElem?_append_right (by rw [l2]; exact hj), l2]; exact h1, h2, h3, h4, fun hk => ?_⟩); have := h5 hk; omega
end
mutual
theorem lvsF_move : ∀ (f : Lm) (s d : Nat), lvsF f (s + d) = (lvsF f s).map (· + d)
  | .mk k n g ks, s, d => by
    (rw [lvsF, lvsF, List.map_append, show s + d + 1 = s + 1 + d by omega, lvsL_move ks])
    congr 1
    split <;> simp
theorem lvsL_move : ∀ (fs : List Lm) (s d : Nat), lvsL fs (s + d) = (lvsL fs s).map (· + d)
  | [], s, d => by rw [lvsL, lvsL]; rfl
  | f :: fs, s, d => by rw [lvsL, lvsL, List.map_append, lvsF_move f, show s + d + f.size = s + f.size + d by omega, lvsL_move fs]
end
/-- A part of a plan within another. -/
structure Emb (nds nds' : List Nd) (f : Nat → Nat) : Prop where
  node : ∀ (i : Nat) (x : Nd), nds[i]? = some x → ∃ y, nds'[f i]? = some y ∧ AsN f x y
  inj : ∀ i j, i < nds.length → j < nds.length → f i = f j → i = j
theorem Emb.lt {nds nds' : List Nd} {f : Nat → Nat} (h : Emb nds nds' f) {i : Nat} (hi : i < nds.length) : f i < nds'.length := by
  obtain ⟨y, hy, -⟩ := h.node i _ (List.getElem?_eq_getElem hi); exact (List.getElem?_eq_some_iff.1 hy).1
/-- What hangs together in a part hangs together in the whole. -/
theorem Emb.cn {nds nds' : List Nd} {f : Nat → Nat} (h : Emb nds nds' f) {E E' : Nat → Nat → Prop} (hE : ∀ i j, E i j → E' (f i) (f j)) {i j : Nat} (hc : Cn nds E i j) : Cn nds' E' (f i) (f j) := by
  induction hc with
  | refl i hi => exact Cn.refl _ (h.lt hi)
  | symm i j _ ih => exact Cn.symm _ _ ih
  | trans i j k _ _ ih1 ih2 => exact Cn.trans _ _ _ ih1 ih2
  | link i j he => exact Cn.link _ _ (hE i j he)
  | ten0 i x hx hk =>
    obtain ⟨y, hy, ha⟩ := h.node i x hx; rw [← (ha.kids (Or.inl hk)).1]
    exact Cn.ten0 _ y hy (ha.k.trans hk)
  | ten1 i x hx hk =>
    obtain ⟨y, hy, ha⟩ := h.node i x hx; rw [← (ha.kids (Or.inl hk)).2]
    exact Cn.ten1 _ y hy (ha.k.trans hk)
  | par i x hx hk _ ih =>
    obtain ⟨y, hy, ha⟩ := h.node i x hx; have hk2 := ha.kids (Or.inr hk); rw [← hk2.1, ← hk2.2] at ih; rw [← hk2.1]; exact Cn.par _ y hy (ha.k.trans hk) ih
/-- Two parts that make up a plan, but for one tensor (where t is given) that holds r1 of the one and r2 of the other. -/
structure Two2 (n1 n2 nt : List Nd) (f g : Nat → Nat) (E1 E2 Et : Nat → Nat → Prop) (t : Option Nat) (r1 r2 : Nat) : Prop where
  e1 : Emb n1 nt f
  e2 : Emb n2 nt g
  cover : ∀ i, i < nt.length → (∃ p, p < n1.length ∧ i = f p) ∨ (∃ q, q < n2.length ∧ i = g q) ∨ t = some i
  apart : ∀ p q, p < n1.length → q < n2.length → f p ≠ g q
  off1 : ∀ p i, p < n1.length → t = some i → f p ≠ i
  off2 : ∀ q i, q < n2.length → t = some i → g q ≠ i
  ten : ∀ i, t = some i → ∃ x, nt[i]? = some x ∧ x.k = 2 ∧ x.a = f r1 ∧ x.b = g r2
  r1 : r1 < n1.length
  r2 : r2 < n2.length
  link : ∀ i j, Et i j → (∃ p q, i = f p ∧ j = f q ∧ p < n1.length ∧ q < n1.length ∧ E1 p q) ∨ (∃ p q, i = g p ∧ j = g q ∧ p < n2.length ∧ q < n2.length ∧ E2 p q)
  in1 : ∀ p q, E1 p q → Et (f p) (f q)
  in2 : ∀ p q, E2 p q → Et (g p) (g q)
  k1 : KidsIn n1
  k2 : KidsIn n2
section
variable {n1 n2 nt : List Nd} {f g : Nat → Nat} {E1 E2 Et : Nat → Nat → Prop} {t : Option Nat} {r1 r2 : Nat}
/-- What hangs together in the whole, told by its parts. -/
inductive QT (n1 n2 : List Nd) (f g : Nat → Nat) (E1 E2 : Nat → Nat → Prop) (t : Option Nat) (r1 r2 : Nat) : Nat → Nat → Prop
  | one (p q : Nat) (h : p < n1.length) (h2 : q < n1.length) (hc : Cn n1 E1 p q) : QT n1 n2 f g E1 E2 t r1 r2 (f p) (f q)
  | two (p q : Nat) (h : p < n2.length) (h2 : q < n2.length) (hc : Cn n2 E2 p q) : QT n1 n2 f g E1 E2 t r1 r2 (g p) (g q)
  | mid (i j k : Nat) (ht : t = some k) (hi : i = k ∨ (∃ p, p < n1.length ∧ i = f p ∧ Cn n1 E1 p r1) ∨ ∃ q, q < n2.length ∧ i = g q ∧ Cn n2 E2 q r2) (hj : j = k ∨ (∃ p, p < n1.length ∧ j = f p ∧ Cn n1 E1 p r1) ∨ ∃ q, q < n2.length ∧ j = g q ∧ Cn n2 E2 q r2) : QT n1 n2 f g E1 E2 t r1 r2 i j
def MidQ (n1 n2 : List Nd) (f g : Nat → Nat) (E1 E2 : Nat → Nat → Prop) (r1 r2 k i : Nat) : Prop := i = k ∨ (∃ p, p < n1.length ∧ i = f p ∧ Cn n1 E1 p r1) ∨ ∃ q, q < n2.length ∧ i = g q ∧ Cn n2 E2 q r2
theorem QT.symm {i j : Nat} (h : QT n1 n2 f g E1 E2 t r1 r2 i j) : QT n1 n2 f g E1 E2 t r1 r2 j i := by
  cases h with
  | one p q h h2 hc => exact QT.one q p h2 h (Cn.symm _ _ hc)
  | two p q h h2 hc => exact QT.two q p h2 h (Cn.symm _ _ hc)
  | mid _ _ k ht hi hj => exact QT.mid j i k ht hj hi
theorem mid_one (T : Two2 n1 n2 nt f g E1 E2 Et t r1 r2) {k p : Nat} (ht : t = some k) (hp : p < n1.length) (h : MidQ n1 n2 f g E1 E2 r1 r2 k (f p)) : Cn n1 E1 p r1 := by
  rcases h with h | ⟨q, hq, e, hc⟩ | ⟨q, hq, e, hc⟩
  · exact absurd h (T.off1 p k hp ht)
  · rw [T.e1.inj p q hp hq e]; exact hc
  · exact absurd e (T.apart p q hp hq)
theorem mid_two (T : Two2 n1 n2 nt f g E1 E2 Et t r1 r2) {k q : Nat} (ht : t = some k) (hq : q < n2.length) (h : MidQ n1 n2 f g E1 E2 r1 r2 k (g q)) : Cn n2 E2 q r2 := by
  rcases h with h | ⟨p, hp, e, hc⟩ | ⟨p, hp, e, hc⟩
  · exact absurd h (T.off2 q k hq ht)
  · exact absurd e.symm (T.apart p q hp hq)
  · rw [T.e2.inj q p hq hp e]; exact hc
theorem QT.in1 (T : Two2 n1 n2 nt f g E1 E2 Et t r1 r2) {p q : Nat} (hp : p < n1.length) (hq : q < n1.length) (h : QT n1 n2 f g E1 E2 t r1 r2 (f p) (f q)) : Cn n1 E1 p q := by
  generalize hi : f p = i at h; generalize hj : f q = j at h
  cases h with
  | one p' q' h h2 hc =>
    rw [T.e1.inj p p' hp h hi, T.e1.inj q q' hq h2 hj]; exact hc
  | two p' q' h h2 hc => exact absurd hi (T.apart p p' hp h)
  | mid _ _ k ht h1 h2 =>
    subst hi; subst hj; exact Cn.trans _ _ _ (mid_one T ht hp h1) (Cn.symm _ _ (mid_one T ht hq h2))
theorem QT.in2 (T : Two2 n1 n2 nt f g E1 E2 Et t r1 r2) {p q : Nat} (hp : p < n2.length) (hq : q < n2.length) (h : QT n1 n2 f g E1 E2 t r1 r2 (g p) (g q)) : Cn n2 E2 p q := by
  generalize hi : g p = i at h; generalize hj : g q = j at h
  cases h with
  | one p' q' h h2 hc => exact absurd hi.symm (T.apart p' p h hp)
  | two p' q' h h2 hc =>
    rw [T.e2.inj p p' hp h hi, T.e2.inj q q' hq h2 hj]; exact hc
  | mid _ _ k ht h1 h2 =>
    subst hi; subst hj; exact Cn.trans _ _ _ (mid_two T ht hp h1) (Cn.symm _ _ (mid_two T ht hq h2))
theorem QT.apart (T : Two2 n1 n2 nt f g E1 E2 Et t r1 r2) {p q : Nat} (ht : t = none) (hp : p < n1.length) (hq : q < n2.length) : ¬ QT n1 n2 f g E1 E2 t r1 r2 (f p) (g q) := by
  intro h; generalize hi : f p = i at h; generalize hj : g q = j at h
  cases h with
  | one p' q' h h2 hc => exact absurd hj.symm (T.apart q' q h2 hq)
  | two p' q' h h2 hc => exact absurd hi (T.apart p p' hp h)
  | mid _ _ k ht2 h1 h2 => rw [ht] at ht2; cases ht2
theorem QT.trans (T : Two2 n1 n2 nt f g E1 E2 Et t r1 r2) {i j k : Nat} (h1 : QT n1 n2 f g E1 E2 t r1 r2 i j) (h2 : QT n1 n2 f g E1 E2 t r1 r2 j k) : QT n1 n2 f g E1 E2 t r1 r2 i k := by
  cases h1 with
  | one p q hp hq hc =>
    generalize hj : f q = j at h2
    cases h2 with
    | one p' q' h h' hc' =>
      have := T.e1.inj q p' hq h hj; subst this
      exact QT.one p q' hp h' (Cn.trans _ _ _ hc hc')
    | two p' q' h h' hc' => exact absurd hj (T.apart q p' hq h)
    | mid _ _ m ht ha hb =>
      subst hj
      exact QT.mid _ _ m ht (Or.inr (Or.inl ⟨p, hp, rfl, Cn.trans _ _ _ hc (mid_one T ht hq ha)⟩)) hb
  | two p q hp hq hc =>
    generalize hj : g q = j at h2
    cases h2 with
    | one p' q' h h' hc' => exact absurd hj.symm (T.apart p' q h hq)
    | two p' q' h h' hc' =>
      have := T.e2.inj q p' hq h hj; subst this
      exact QT.two p q' hp h' (Cn.trans _ _ _ hc hc')
    | mid _ _ m ht ha hb =>
      subst hj
      exact QT.mid _ _ m ht (Or.inr (Or.inr ⟨p, hp, rfl, Cn.trans _ _ _ hc (mid_two T ht hq ha)⟩)) hb
  | mid _ _ m ht ha hb =>
    generalize hj : j = j' at h2
    cases h2 with
    | one p' q' h h' hc' =>
      subst hj
      exact QT.mid _ _ m ht ha (Or.inr (Or.inl ⟨q', h', rfl, Cn.trans _ _ _ (Cn.symm _ _ hc') (mid_one T ht h hb)⟩))
    | two p' q' h h' hc' =>
      subst hj
      exact QT.mid _ _ m ht ha (Or.inr (Or.inr ⟨q', h', rfl, Cn.trans _ _ _ (Cn.symm _ _ hc') (mid_two T ht h hb)⟩))
    | mid _ _ m' ht' ha' hb' =>
      (have e : m' = m := by rw [ht] at ht'; cases ht'; rfl); subst e; exact QT.mid _ _ m' ht ha hb'
theorem QT.of_cn (T : Two2 n1 n2 nt f g E1 E2 Et t r1 r2) {i j : Nat} (h : Cn nt Et i j) : QT n1 n2 f g E1 E2 t r1 r2 i j := by
  (have self1 : ∀ p, p < n1.length → ∀ (x : Nd), n1[p]? = some x → x.k = 2 ∨ x.k = 3 → x.a < n1.length ∧ x.b < n1.length := fun p _ x hx hk => T.k1 p x hx hk); (have self2 : ∀ p, p < n2.length → ∀ (x : Nd), n2[p]? = some x → x.k = 2 ∨ x.k = 3 → x.a < n2.length ∧ x.b < n2.length := fun p _ x hx hk => T.k2 p x hx hk)
  have cas : ∀ i x, nt[i]? = some x → x.k = 2 ∨ x.k = 3 → (∃ p y, p < n1.length ∧ i = f p ∧ n1[p]? = some y ∧ y.k = x.k ∧ x.a = f y.a ∧ x.b = f y.b ∧ y.a < n1.length ∧ y.b < n1.length) ∨ (∃ p y, p < n2.length ∧ i = g p ∧ n2[p]? = some y ∧ y.k = x.k ∧ x.a = g y.a ∧ x.b = g y.b ∧ y.a < n2.length ∧ y.b < n2.length) ∨ (t = some i ∧ x.k = 2 ∧ x.a = f r1 ∧ x.b = g r2) := fun i x hx hk => by
    rcases T.cover i (List.getElem?_eq_some_iff.1 hx).1 with ⟨p, hp, rfl⟩ | ⟨p, hp, rfl⟩ | ht
    · obtain ⟨z, hz, ha⟩ := T.e1.node p _ (List.getElem?_eq_getElem hp)
      rw [hx] at hz
      cases hz
      have hk2 := hk; rw [ha.k] at hk2; obtain ⟨u1, u2⟩ := self1 p hp _ (List.getElem?_eq_getElem hp) hk2; exact Or.inl ⟨p, _, hp, rfl, List.getElem?_eq_getElem hp, ha.k.symm, (ha.kids hk2).1, (ha.kids hk2).2, u1, u2⟩
    · obtain ⟨z, hz, ha⟩ := T.e2.node p _ (List.getElem?_eq_getElem hp)
      rw [hx] at hz
      cases hz
      have hk2 := hk; rw [ha.k] at hk2; obtain ⟨u1, u2⟩ := self2 p hp _ (List.getElem?_eq_getElem hp) hk2; exact Or.inr (Or.inl ⟨p, _, hp, rfl, List.getElem?_eq_getElem hp, ha.k.symm, (ha.kids hk2).1, (ha.kids hk2).2, u1, u2⟩)
    · obtain ⟨y, hy, h1, h2, h3⟩ := T.ten i ht
      rw [hx] at hy
      cases hy
      exact Or.inr (Or.inr ⟨ht, h1, h2, h3⟩)
  induction h with
  | refl i hi =>
    rcases T.cover i hi with ⟨p, hp, rfl⟩ | ⟨p, hp, rfl⟩ | ht
    · exact QT.one p p hp hp (Cn.refl p hp)
    · exact QT.two p p hp hp (Cn.refl p hp)
    · exact QT.mid i i i ht (Or.inl rfl) (Or.inl rfl)
  | symm i j _ ih => exact ih.symm
  | trans i j k _ _ ih1 ih2 => exact ih1.trans T ih2
  | link i j he =>
    rcases T.link i j he with ⟨p, q, rfl, rfl, hp, hq, h1⟩ | ⟨p, q, rfl, rfl, hp, hq, h1⟩
    · exact QT.one p q hp hq (Cn.link _ _ h1)
    · exact QT.two p q hp hq (Cn.link _ _ h1)
  | ten0 i x hx hk =>
    rcases cas i x hx (Or.inl hk) with ⟨p, y, hp, rfl, hy, h1, h2, h3, h4, h5⟩ | ⟨p, y, hp, rfl, hy, h1, h2, h3, h4, h5⟩ | ⟨ht, h1, h2, h3⟩
    · rw [h2]; exact QT.one p _ hp h4 (Cn.ten0 p y hy (h1.trans hk))
    · rw [h2]; exact QT.two p _ hp h4 (Cn.ten0 p y hy (h1.trans hk))
    · rw [h2]; exact QT.mid _ _ i ht (Or.inl rfl) (Or.inr (Or.inl ⟨r1, T.r1, rfl, Cn.refl _ T.r1⟩))
  | ten1 i x hx hk =>
    rcases cas i x hx (Or.inl hk) with ⟨p, y, hp, rfl, hy, h1, h2, h3, h4, h5⟩ | ⟨p, y, hp, rfl, hy, h1, h2, h3, h4, h5⟩ | ⟨ht, h1, h2, h3⟩
    · rw [h3]; exact QT.one p _ hp h5 (Cn.ten1 p y hy (h1.trans hk))
    · rw [h3]; exact QT.two p _ hp h5 (Cn.ten1 p y hy (h1.trans hk))
    · rw [h3]; exact QT.mid _ _ i ht (Or.inl rfl) (Or.inr (Or.inr ⟨r2, T.r2, rfl, Cn.refl _ T.r2⟩))
  | par i x hx hk _ ih =>
    rcases cas i x hx (Or.inr hk) with ⟨p, y, hp, rfl, hy, h1, h2, h3, h4, h5⟩ | ⟨p, y, hp, rfl, hy, h1, h2, h3, h4, h5⟩ | ⟨ht, h1, h2, h3⟩
    · rw [h2, h3] at ih
      rw [h2]; exact QT.one p _ hp h4 (Cn.par p y hy (h1.trans hk) (QT.in1 T h4 h5 ih))
    · rw [h2, h3] at ih
      rw [h2]; exact QT.two p _ hp h4 (Cn.par p y hy (h1.trans hk) (QT.in2 T h4 h5 ih))
    · rw [hk] at h1; cases h1
/-- With a tensor between them two nets are whole just if both are; beside each other they are not. -/
theorem two_whole (T : Two2 n1 n2 nt f g E1 E2 Et t r1 r2) {k : Nat} (ht : t = some k) : WholeN nt Et ↔ WholeN n1 E1 ∧ WholeN n2 E2 := by
  constructor
  · intro h
    (exact ⟨fun p q hp hq => QT.in1 T hp hq (QT.of_cn T (h _ _ (T.e1.lt hp) (T.e1.lt hq))), fun p q hp hq => QT.in2 T hp hq (QT.of_cn T (h _ _ (T.e2.lt hp) (T.e2.lt hq)))⟩)
  · rintro ⟨h1, h2⟩
    obtain ⟨x, hx, hk, ha, hb⟩ := T.ten k ht; (have c0 : Cn nt Et k (f r1) := by rw [← ha]; exact Cn.ten0 k x hx hk); (have c1 : Cn nt Et k (g r2) := by rw [← hb]; exact Cn.ten1 k x hx hk)
    have all : ∀ i, i < nt.length → Cn nt Et i k := fun i hi => by
      rcases T.cover i hi with ⟨p, hp, rfl⟩ | ⟨p, hp, rfl⟩ | h3
      · exact Cn.trans _ _ _ (T.e1.cn T.in1 (h1 p r1 hp T.r1)) (Cn.symm _ _ c0)
      · exact Cn.trans _ _ _ (T.e2.cn T.in2 (h2 p r2 hp T.r2)) (Cn.symm _ _ c1)
      · rw [ht] at h3
        cases h3
        exact Cn.refl k hi
    (exact fun i j hi hj => Cn.trans _ _ _ (all i hi) (Cn.symm _ _ (all j hj)))
theorem two_apart (T : Two2 n1 n2 nt f g E1 E2 Et t r1 r2) (ht : t = none) : ¬ WholeN nt Et := fun h =>
  QT.apart T ht T.r1 T.r2 (QT.of_cn T (h _ _ (T.e1.lt T.r1) (T.e2.lt T.r2)))
end
end Go.Proofs.Ytealalhgkdlmkai
/- Plain: what is whole has joints enough; links of two nets together. -/
namespace Go.Proofs.Ytealalhgkdlmkai

def edgN (i : Nat) (x : Nd) : List (Nat × Nat) := if x.k = 3 then [(i, x.a)] else if x.k = 2 then [(i, x.a), (i, x.b)] else []
def edgs : Nat → List Nd → List (Nat × Nat)
  | _, [] => []
  | s, x :: xs => edgN s x ++ edgs (s + 1) xs
theorem edgs_len : ∀ (s : Nat) (l : List Nd), (edgs s l).length = jSum l
  | _, [] => by simp [edgs, jSum]
  | s, x :: xs => by
    (have h1 : (edgN s x).length = jOf x := by unfold edgN jOf; split <;> (try split) <;> rfl); (have h2 : jSum (x :: xs) = jOf x + jSum xs := by simp [jSum]); rw [edgs, List.length_append, h1, edgs_len (s + 1) xs, h2]
theorem edgs_mem : ∀ (s : Nat) (l : List Nd) (i : Nat) (x : Nd), l[i]? = some x → ∀ p ∈ edgN (s + i) x, p ∈ edgs s l
  | s, [], i, x, h, p, hp => by simp at h
  | s, y :: ys, 0, x, h, p, hp => by
    simp at h; subst h; rw [edgs]
    exact List.mem_append_left _ hp
  | s, y :: ys, i + 1, x, h, p, hp => by
    rw [edgs]; (refine List.mem_append_right _ (edgs_mem (s + 1) ys i x (by simpa using h) p ?_))
    rwa [show s + 1 + i = s + (i + 1) by omega]
theorem edgs_of : ∀ (s : Nat) (l : List Nd) (p : Nat × Nat), p ∈ edgs s l → ∃ i x, l[i]? = some x ∧ p ∈ edgN (s + i) x
  | s, [], p, hp => by rw [edgs] at hp; cases hp
  | s, y :: ys, p, hp => by
    rw [edgs] at hp
    rcases List.mem_append.1 hp with h | h
    · exact ⟨0, y, rfl, h⟩
    · obtain ⟨i, x, h1, h2⟩ := edgs_of (s + 1) ys p h
      (exact ⟨i + 1, x, by simpa using h1, by rwa [show s + (i + 1) = s + 1 + i by omega]⟩)
/-- Classes along a list of pairs. -/
def foldC : (Nat → Nat) → List (Nat × Nat) → Nat → Nat
  | c, [] => c
  | c, p :: ps => foldC (mergeC c p.1 p.2) ps
theorem foldC_facts {n : Nat} : ∀ (ps : List (Nat × Nat)) (c : Nat → Nat), Cls n c → (∀ p ∈ ps, p.1 < n ∧ p.2 < n) → Cls n (foldC c ps) ∧ Coar c (foldC c ps) ∧ rootsN n c ≤ rootsN n (foldC c ps) + ps.length ∧ ∀ p ∈ ps, foldC c ps p.1 = foldC c ps p.2
  | [], c, hc, _ => ⟨hc, Coar.refl _, Nat.le_refl _, fun p hp => by cases hp⟩
  | p :: ps, c, hc, hp => by
    (have hp0 := hp p (by simp)); (obtain ⟨h1, h2, h3, h4⟩ := foldC_facts ps (mergeC c p.1 p.2) (hc.merge hp0.2) (fun q hq => hp q (by simp [hq])))
    have hr : rootsN n c ≤ rootsN n (mergeC c p.1 p.2) + 1 := by
      by_cases e : c p.1 = c p.2
      · rw [mergeC_same e]; omega
      · have := rootsN_merge hc hp0.1 hp0.2 e; omega
    (refine ⟨h1, (merge_coar c p.1 p.2).trans h2, ?_, fun q hq => ?_⟩)
    · rw [foldC, List.length_cons]; omega
    · rcases List.mem_cons.1 hq with rfl | hq
      · exact h2 _ _ (merge_join c q.1 q.2)
      · exact h4 q hq
/-- What is whole has joints enough. -/
theorem joints_low {nds : List Nd} {E : Nat → Nat → Prop} (EL : List (Nat × Nat)) (hK : KidsIn nds) (hE : ∀ i j, E i j → (i, j) ∈ EL ∨ (j, i) ∈ EL) (hin : ∀ p ∈ EL, p.1 < nds.length ∧ p.2 < nds.length) (hn : 0 < nds.length) (hW : WholeN nds E) : nds.length ≤ EL.length + jSum nds + 1 := by
  have hin2 : ∀ p ∈ EL ++ edgs 0 nds, p.1 < nds.length ∧ p.2 < nds.length := fun p hp => by
    rcases List.mem_append.1 hp with h | h
    · exact hin p h
    · obtain ⟨i, x, hx, h2⟩ := edgs_of 0 nds p h
      have hi := (List.getElem?_eq_some_iff.1 hx).1; unfold edgN at h2
      split at h2
      · rename_i hk
        have := hK i x hx (Or.inr hk); simp at h2; subst h2
        simp; omega
      · split at h2
        · rename_i hk
          have := hK i x hx (Or.inl hk); simp at h2
          rcases h2 with rfl | rfl <;> (simp; omega)
        · cases h2
  (obtain ⟨h1, h2, h3, h4⟩ := foldC_facts (n := nds.length) (EL ++ edgs 0 nds) (fun i => i) (UF.start nds.length).toCls hin2)
  have hsh : Shut nds E (foldC (fun i => i) (EL ++ edgs 0 nds)) := by
    (refine ⟨fun i j he => ?_, fun i x hx hk => ?_, fun i x hx hk _ => ?_⟩)
    · rcases hE i j he with h | h
      · exact h4 _ (List.mem_append_left _ h)
      · exact (h4 _ (List.mem_append_left _ h)).symm
    · have m : ∀ p ∈ edgN (0 + i) x, p ∈ EL ++ edgs 0 nds := fun p hp => List.mem_append_right _ (edgs_mem 0 nds i x hx p hp)
      (have e : edgN (0 + i) x = [(i, x.a), (i, x.b)] := by unfold edgN; rw [if_neg (by omega), if_pos hk, Nat.zero_add]); rw [e] at m; (exact ⟨h4 _ (m (i, x.a) (by simp)), h4 _ (m (i, x.b) (by simp))⟩)
    · have m : ∀ p ∈ edgN (0 + i) x, p ∈ EL ++ edgs 0 nds := fun p hp => List.mem_append_right _ (edgs_mem 0 nds i x hx p hp)
      (have e : edgN (0 + i) x = [(i, x.a)] := by unfold edgN; rw [if_pos hk, Nat.zero_add]); rw [e] at m; (exact h4 _ (m (i, x.a) (by simp)))
  (have hone : rootsN nds.length (foldC (fun i => i) (EL ++ edgs 0 nds)) = 1 := (rootsN_one h1 hn).2 fun i j hi hj => hsh.all (hW i j hi hj)); rw [rootsN_start, hone, List.length_append, edgs_len] at h3; omega
/-- Mates come of links. -/
theorem lkAll_mem {nds : List Nd} {lvs : List Nat} : ∀ (ax : List (Int × Int)) (i : Nat) (mu : Nat → Option Nat) (c : Nat) (mu' : Nat → Option Nat) (c' : Nat), lkAll nds lvs ax i mu c = .ok mu' c' → ∀ a m, mu' a = some m → mu a = some m ∨ ((a : Int), (m : Int)) ∈ ax ∨ ((m : Int), (a : Int)) ∈ ax
  | [], i, mu, c, mu', c', h, a, m, hm => by
    rw [lkAll] at h
    cases h
    exact Or.inl hm
  | (x, y) :: ps, i, mu, c, mu', c', h, a, m, hm => by
    rw [lkAll] at h
    split at h
    · cases h
    · rename_i hb
      obtain ⟨p, q, rfl, rfl, -⟩ := lkBad_none hb
      rcases lkAll_mem ps (i + 1) _ _ mu' c' h a m hm with h1 | h1 | h1
      · unfold muLink muPut at h1
        simp only [Int.toNat_natCast] at h1; by_cases e1 : a = q
        · rw [if_pos e1] at h1
          cases h1
          subst e1; (exact Or.inr (Or.inr (by simp)))
        · rw [if_neg e1] at h1
          by_cases e2 : a = p
          · rw [if_pos e2] at h1
            cases h1
            subst e2; (exact Or.inr (Or.inl (by simp)))
          · rw [if_neg e2] at h1
            exact Or.inl h1
      · exact Or.inr (Or.inl (List.mem_cons_of_mem _ h1))
      · exact Or.inr (Or.inr (List.mem_cons_of_mem _ h1))
/-- Joints enough, of a net that is linked. -/
theorem net_low {l : List Lm} {ax : List (Int × Int)} {mu : Nat → Option Nat} {c : Nat} (h : netC l ax = .ok mu c) (hW : WholeN (ndsL l 0) (lkE (lvsL l 0) mu)) : (ndsL l 0).length ≤ ax.length + jSum (ndsL l 0) + 1 := by
  obtain ⟨g1, g2, g3, g4, g5, g6⟩ := netC_ok h; obtain ⟨f1, -, -, f4, -⟩ := linkC_ok g5; (have hn : 0 < (ndsL l 0).length := by rw [ndsL_len]; exact g6); (have hlow := joints_low (nds := ndsL l 0) (E := lkE (lvsL l 0) mu) ((ax.filter fun p => decide (0 ≤ p.1 ∧ p.1.toNat < (lvsL l 0).length ∧ 0 ≤ p.2 ∧ p.2.toNat < (lvsL l 0).length)).map fun p => ((lvsL l 0).getD p.1.toNat 0, (lvsL l 0).getD p.2.toNat 0)) (kidsIn_plan g3) (fun i j he => ?_) (fun p hp => ?_) hn hW)
  · rw [List.length_map] at hlow
    (have := List.length_filter_le (fun p => decide (0 ≤ p.1 ∧ p.1.toNat < (lvsL l 0).length ∧ 0 ≤ p.2 ∧ p.2.toNat < (lvsL l 0).length)) ax); omega
  · obtain ⟨a, m, hm, ha, hb⟩ := he
    have hlt := f1.lt a m hm
    have key : ∀ (a m : Nat) (i j : Nat), (lvsL l 0)[a]? = some i → (lvsL l 0)[m]? = some j → a < (lvsL l 0).length → m < (lvsL l 0).length → ((a : Int), (m : Int)) ∈ ax → (i, j) ∈ (ax.filter fun p => decide (0 ≤ p.1 ∧ p.1.toNat < (lvsL l 0).length ∧ 0 ≤ p.2 ∧ p.2.toNat < (lvsL l 0).length)).map fun p => ((lvsL l 0).getD p.1.toNat 0, (lvsL l 0).getD p.2.toNat 0) := fun a m i j ha hb h1 h2 hmem => by
      refine List.mem_map.2 ⟨((a : Int), (m : Int)), List.mem_filter.2 ⟨hmem, ?_⟩, ?_⟩
      · simp; omega
      · simp only [Int.toNat_natCast, List.getD_eq_getElem?_getD, ha, hb, Option.getD_some]
    rcases lkAll_mem ax 0 _ 0 mu c f4 a m hm with h1 | h1 | h1
    · cases h1
    · exact Or.inl (key a m i j ha hb hlt.1 hlt.2 h1)
    · exact Or.inr (key m a j i hb ha hlt.2 hlt.1 h1)
  · obtain ⟨q, hq, rfl⟩ := List.mem_map.1 hp
    have hq2 := (List.mem_filter.1 hq).2; simp only [decide_eq_true_eq] at hq2; have hL := lvIn_plan l; refine ⟨hL q.1.toNat _ ?_, hL q.2.toNat _ ?_⟩
    · show (lvsL l 0)[q.1.toNat]? = some ((lvsL l 0).getD q.1.toNat 0)
      rw [List.getD_eq_getElem?_getD, List.getElem?_eq_getElem hq2.2.1]; rfl
    · show (lvsL l 0)[q.2.toNat]? = some ((lvsL l 0).getD q.2.toNat 0)
      rw [List.getD_eq_getElem?_getD, List.getElem?_eq_getElem hq2.2.2.2]; rfl
end Go.Proofs.Ytealalhgkdlmkai
