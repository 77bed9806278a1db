/- Texts of one proof, one behind the other: NTG. -/
import Derived.Test.YtealalhgkdlmkaiB05
import Derived.Test.YtealalhgkdlmkaiB21
/- Plain: how the nodes of a net hang together. -/
namespace Go.Proofs.Ytealalhgkdlmkai

/-- What is linked: nodes of leaves that are mates. -/
def lkE (lvs : List Nat) (mu : Nat → Option Nat) (i j : Nat) : Prop := ∃ a m, mu a = some m ∧ lvs[a]? = some i ∧ lvs[m]? = some j
/-- How nodes come into one class. -/
inductive Cn (nds : List Nd) (E : Nat → Nat → Prop) : Nat → Nat → Prop
  | refl (i : Nat) (h : i < nds.length) : Cn nds E i i
  | symm (i j : Nat) (h : Cn nds E i j) : Cn nds E j i
  | trans (i j k : Nat) (h : Cn nds E i j) (h2 : Cn nds E j k) : Cn nds E i k
  | link (i j : Nat) (h : E i j) : Cn nds E i j
  | ten0 (i : Nat) (x : Nd) (h : nds[i]? = some x) (hk : x.k = 2) : Cn nds E i x.a
  | ten1 (i : Nat) (x : Nd) (h : nds[i]? = some x) (hk : x.k = 2) : Cn nds E i x.b
  | par (i : Nat) (x : Nd) (h : nds[i]? = some x) (hk : x.k = 3) (h2 : Cn nds E x.a x.b) : Cn nds E i x.a
/-- All nodes are in one class. -/
def WholeN (nds : List Nd) (E : Nat → Nat → Prop) : Prop := ∀ i j, i < nds.length → j < nds.length → Cn nds E i j
/-- Classes that are told rightly. -/
def Snd (nds : List Nd) (E : Nat → Nat → Prop) (c : Nat → Nat) : Prop := ∀ i j, i < nds.length → j < nds.length → c i = c j → Cn nds E i j
def Coar (c c' : Nat → Nat) : Prop := ∀ i j, c i = c j → c' i = c' j
theorem merge_coar (c : Nat → Nat) (a b : Nat) : Coar c (mergeC c a b) := fun i j h => by unfold mergeC; rw [h]
theorem merge_join (c : Nat → Nat) (a b : Nat) : mergeC c a b a = mergeC c a b b := by
  unfold mergeC; rw [if_pos rfl]
  split <;> rfl
theorem merge_snd {nds : List Nd} {E : Nat → Nat → Prop} {c : Nat → Nat} {a b : Nat} (h : Snd nds E c) (ha : a < nds.length) (hb : b < nds.length) (hab : Cn nds E a b) : Snd nds E (mergeC c a b) := by
  intro i j hi hj e; unfold mergeC at e; by_cases h1 : c i = c a
  · rw [if_pos h1] at e
    by_cases h2 : c j = c a
    · exact h i j hi hj (h1.trans h2.symm)
    · rw [if_neg h2] at e
      exact Cn.trans _ _ _ (h i a hi ha h1) (Cn.trans _ _ _ hab (h b j hb hj e))
  · rw [if_neg h1] at e
    by_cases h2 : c j = c a
    · rw [if_pos h2] at e
      exact Cn.trans _ _ _ (h i b hi hb e) (Cn.symm _ _ (Cn.trans _ _ _ (h j a hj ha h2) hab))
    · rw [if_neg h2] at e
      exact h i j hi hj e
theorem snd_start (nds : List Nd) (E : Nat → Nat → Prop) : Snd nds E (fun i => i) := fun i j hi _ e => by
  have e2 : i = j := e; subst e2; exact Cn.refl i hi
/-- Kids are among the nodes. -/
def KidsIn (nds : List Nd) : Prop := ∀ (i : Nat) (x : Nd), nds[i]? = some x → x.k = 2 ∨ x.k = 3 → x.a < nds.length ∧ x.b < nds.length
/-- Classes that nothing joins any more. -/
structure Shut (nds : List Nd) (E : Nat → Nat → Prop) (c : Nat → Nat) : Prop where
  link : ∀ i j, E i j → c i = c j
  ten : ∀ (i : Nat) (x : Nd), nds[i]? = some x → x.k = 2 → c i = c x.a ∧ c i = c x.b
  par : ∀ (i : Nat) (x : Nd), nds[i]? = some x → x.k = 3 → c x.a = c x.b → c i = c x.a
theorem Shut.all {nds : List Nd} {E : Nat → Nat → Prop} {c : Nat → Nat} (h : Shut nds E c) {i j : Nat} (hc : Cn nds E i j) : c i = c j := by
  induction hc with
  | refl i _ => rfl
  | symm i j _ ih => exact ih.symm
  | trans i j k _ _ ih1 ih2 => exact ih1.trans ih2
  | link i j hE => exact h.link i j hE
  | ten0 i x hx hk => exact (h.ten i x hx hk).1
  | ten1 i x hx hk => exact (h.ten i x hx hk).2
  | par i x hx hk _ ih => exact h.par i x hx hk ih
theorem shut_whole {nds : List Nd} {E : Nat → Nat → Prop} {c : Nat → Nat} (h : Shut nds E c) (hs : Snd nds E c) (hc : Cls nds.length c) (hn : 0 < nds.length) : rootsN nds.length c = 1 ↔ WholeN nds E := by
  rw [rootsN_one hc hn]; (exact ⟨fun h1 i j hi hj => hs i j hi hj (h1 i j hi hj), fun h1 i j hi hj => h.all (h1 i j hi hj)⟩)
mutual
theorem ndsF_kids : ∀ (f : Lm) (s : Nat), LFine f → ∀ x ∈ ndsF f s, x.k = 2 ∨ x.k = 3 → s < x.a ∧ x.a < s + f.size ∧ s < x.b ∧ x.b < s + f.size
  | .mk k n g ks, s, h, x, hx, hk => by
    rw [ndsF] at hx; rw [Lm.size]
    rcases List.mem_cons.1 hx with rfl | hx
    · cases h with
      | atom _ _ _ => simp at hk
      | two _ f1 f2 _ _ _ =>
        simp only [kidA, kidB, Lm.sizes]; (have h1 : 0 < f1.size := by cases f1; rw [Lm.size]; omega); (have h2 : 0 < f2.size := by cases f2; rw [Lm.size]; omega); omega
    · have := ndsL_kids ks (s + 1) h.kids x hx hk
      omega
theorem ndsL_kids : ∀ (fs : List Lm) (s : Nat), (∀ f ∈ fs, LFine f) → ∀ x ∈ ndsL fs s, x.k = 2 ∨ x.k = 3 → s < x.a ∧ x.a < s + Lm.sizes fs ∧ s < x.b ∧ x.b < s + Lm.sizes fs
  | [], s, _, x, hx, _ => by rw [ndsL] at hx; cases hx
  | f :: fs, s, h, x, hx, hk => by
    rw [ndsL] at hx; rw [Lm.sizes]
    rcases List.mem_append.1 hx with hx | hx
    · have := ndsF_kids f s (h f (by simp)) x hx hk
      omega
    · have := ndsL_kids fs (s + f.size) (fun y hy => h y (by simp [hy])) x hx hk
      omega
end
theorem kidsIn_plan {l : List Lm} (h : ∀ f ∈ l, LFine f) : KidsIn (ndsL l 0) := fun i x hx hk => by
  rw [ndsL_len]; have := ndsL_kids l 0 h x (List.mem_of_getElem? hx) hk; omega
/-- Mates are leaves, and mates of each other. -/
structure MuOk (L : Nat) (mu : Nat → Option Nat) : Prop where
  lt : ∀ a m, mu a = some m → a < L ∧ m < L
  ne : ∀ a m, mu a = some m → a ≠ m
  back : ∀ a m, mu a = some m → mu m = some a
theorem MuOk.start (L : Nat) : MuOk L (fun _ => none) := ⟨fun _ _ h => (by cases h), fun _ _ h => (by cases h), fun _ _ h => (by cases h)⟩
theorem MuOk.link {L : Nat} {mu : Nat → Option Nat} (h : MuOk L mu) {a b : Nat} (ha : a < L) (hb : b < L) (hab : a ≠ b) (hma : mu a = none) (hmb : mu b = none) : MuOk L (muPut (muPut mu a b) b a) := by
  have key : ∀ i m, muPut (muPut mu a b) b a i = some m → (i = b ∧ m = a) ∨ (i = a ∧ m = b) ∨ (i ≠ a ∧ i ≠ b ∧ m ≠ a ∧ m ≠ b ∧ mu i = some m) := fun i m hi => by
    unfold muPut at hi; by_cases h1 : i = b
    · rw [if_pos h1] at hi
      exact Or.inl ⟨h1, (Option.some.inj hi).symm⟩
    · rw [if_neg h1] at hi
      by_cases h2 : i = a
      · rw [if_pos h2] at hi
        exact Or.inr (Or.inl ⟨h2, (Option.some.inj hi).symm⟩)
      · rw [if_neg h2] at hi
        (refine Or.inr (Or.inr ⟨h2, h1, fun e => ?_, fun e => ?_, hi⟩))
        · have := h.back i m hi
          rw [e, hma] at this
          cases this
        · have := h.back i m hi
          rw [e, hmb] at this
          cases this
  (refine ⟨fun i m hi => ?_, fun i m hi => ?_, fun i m hi => ?_⟩)
  · rcases key i m hi with ⟨rfl, rfl⟩ | ⟨rfl, rfl⟩ | ⟨_, _, _, _, h5⟩
    · exact ⟨hb, ha⟩
    · exact ⟨ha, hb⟩
    · exact h.lt i m h5
  · rcases key i m hi with ⟨rfl, rfl⟩ | ⟨rfl, rfl⟩ | ⟨_, _, _, _, h5⟩
    · exact fun e => hab e.symm
    · exact hab
    · exact h.ne i m h5
  · rcases key i m hi with ⟨rfl, rfl⟩ | ⟨rfl, rfl⟩ | ⟨h1, h2, h3, h4, h5⟩
    · unfold muPut; rw [if_neg hab, if_pos rfl]
    · unfold muPut; rw [if_pos rfl]
    · unfold muPut; rw [if_neg h4, if_neg h3]; exact h.back i m h5
theorem lkAll_mu {nds : List Nd} {lvs : List Nat} : ∀ (ax : List (Int × Int)) (i : Nat) (mu : Nat → Option Nat) (c : Nat) (mu' : Nat → Option Nat) (c' : Nat), lkAll nds lvs ax i mu c = .ok mu' c' → MuOk lvs.length mu → MuOk lvs.length mu' ∧ c' = c + 2 * ax.length
  | [], i, mu, c, mu', c', h, hm => by
    rw [lkAll] at h
    cases h
    exact ⟨hm, rfl⟩
  | (x, y) :: ps, i, mu, c, mu', c', h, hm => by
    rw [lkAll] at h
    split at h
    · cases h
    · rename_i hb
      obtain ⟨a, b, rfl, rfl, ha, hb2, hab, hma, hmb, -⟩ := lkBad_none hb
      obtain ⟨h1, h2⟩ := lkAll_mu ps (i + 1) _ _ mu' c' h (by
        unfold muLink; simp only [Int.toNat_natCast]
        exact hm.link ha hb2 hab hma hmb)
      refine ⟨h1, ?_⟩; rw [h2, List.length_cons]; omega
theorem linkC_ok {nds : List Nd} {lvs : List Nat} {ax : List (Int × Int)} {mu : Nat → Option Nat} {c : Nat} (h : linkC nds lvs ax = .ok mu c) : MuOk lvs.length mu ∧ c = 2 * ax.length ∧ (∀ j, j < lvs.length → (mu j).isSome = true) ∧ lkAll nds lvs ax 0 (fun _ => none) 0 = .ok mu c ∧ ax.length ≤ lvs.length := by
  unfold linkC at h
  split at h
  · cases h
  rename_i h0
  split at h
  · cases h
  · rename_i mu' c' hl
    split at h
    · cases h
    · rename_i hf
      cases h
      obtain ⟨h1, h2⟩ := lkAll_mu ax 0 _ 0 mu c hl (MuOk.start _); (refine ⟨h1, by omega, fun j hj => ?_, hl, by omega⟩); unfold firstFree at hf; rw [List.find?_eq_none] at hf; have h9 := hf j (List.mem_range.2 hj)
      cases hm : mu j with
      | none => rw [hm] at h9; simp at h9
      | some v => rfl
end Go.Proofs.Ytealalhgkdlmkai
