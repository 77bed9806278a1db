/- Texts of one proof, one behind the other: NTR, NTS, NI1, NI2. -/
import Derived.Test.YtealalhgkdlmkaiB26
/- Plain: two nets beside each other, and with a tensor between them. -/
namespace Go.Proofs.Ytealalhgkdlmkai

/-- The tensor of two formulas. -/
def tenL (f h : Lm) : Lm := .mk 2 ⟨#[]⟩ false [f, h]
theorem nds_ten (l' m' : List Lm) (f h : Lm) : ndsL (l' ++ tenL f h :: m') 0 = ndsL l' 0 ++ (⟨2, ⟨#[]⟩, false, Lm.sizes l' + 1, Lm.sizes l' + 1 + f.size⟩ :: (ndsL [f] (Lm.sizes l' + 1) ++ ndsL (h :: m') (Lm.sizes l' + f.size + 1))) := by
  (have e : Lm.sizes l' + (tenL f h).size = Lm.sizes l' + f.size + 1 + h.size := by simp [tenL, Lm.size, Lm.sizes]; omega); rw [ndsL_app, Nat.zero_add, ndsL, e]; unfold tenL; rw [ndsF]; simp only [ndsL, kidA, kidB, List.append_nil, List.cons_append, List.append_assoc]; (rw [show Lm.sizes l' + 1 + f.size = Lm.sizes l' + f.size + 1 by omega])
theorem lvs_ten (l' m' : List Lm) (f h : Lm) : lvsL (l' ++ tenL f h :: m') 0 = lvsL l' 0 ++ (lvsL [f] (Lm.sizes l' + 1) ++ lvsL (h :: m') (Lm.sizes l' + f.size + 1)) := by
  (have e : Lm.sizes l' + (tenL f h).size = Lm.sizes l' + f.size + 1 + h.size := by simp [tenL, Lm.size, Lm.sizes]; omega); rw [lvsL_app, Nat.zero_add, lvsL, e]; unfold tenL; (rw [lvsF, if_neg (by decide)]); simp only [lvsL, List.nil_append, List.append_nil, List.append_assoc]; (rw [show Lm.sizes l' + 1 + f.size = Lm.sizes l' + f.size + 1 by omega])
theorem jSum_app (a b : List Nd) : jSum (a ++ b) = jSum a + jSum b := by simp [jSum]
/-- A node of a list of fine formulas, wherever the list stands. -/
theorem node_at {fs : List Lm} (hf : ∀ f ∈ fs, LFine f) {s s' i : Nat} {x : Nd} {nt : List Nd} (hs : ∀ j, j < Lm.sizes fs → nt[s' + j]? = (ndsL fs s')[j]?) (hx : (ndsL fs s)[i]? = some x) : ∃ y, nt[s' + i]? = some y ∧ y.k = x.k ∧ y.n = x.n ∧ y.g = x.g ∧ (x.k = 2 ∨ x.k = 3 → y.a + s = x.a + s' ∧ y.b + s = x.b + s') ∧ (x.k = 2 ∨ x.k = 3 → s < x.a ∧ x.a < s + Lm.sizes fs ∧ s < x.b ∧ x.b < s + Lm.sizes fs) := by
  (have hi : i < Lm.sizes fs := by have := (List.getElem?_eq_some_iff.1 hx).1; rwa [ndsL_len] at this); obtain ⟨y, h1, h2, h3, h4, h5⟩ := ndsL_move fs hf s s' i x hx; (exact ⟨y, by rw [hs i hi]; exact h1, h2, h3, h4, h5, fun hk => ndsL_kids fs s hf x (List.mem_of_getElem? hx) hk⟩)
theorem seg_at {a b c : List Nd} {n s j : Nat} (ha : a.length = s) (hb : b.length = n) (hj : j < n) : (a ++ (b ++ c))[s + j]? = b[j]? := by
  (rw [List.getElem?_append_right (by omega), List.getElem?_append_left (by omega), ha, Nat.add_sub_cancel_left])
section
variable {l' m' : List Lm} {f0 h0 : Lm}
/-- Where the first net's nodes come to. -/
def fT (K : Nat) (i : Nat) : Nat := if i < K then i else i + 1
theorem emb1_ten (hl : ∀ f ∈ l' ++ [f0], LFine f) : Emb (ndsL (l' ++ [f0]) 0) (ndsL (l' ++ tenL f0 h0 :: m') 0) (fT (Lm.sizes l')) := by
  (have hl1 : ∀ f ∈ l', LFine f := fun f hf => hl f (by simp [hf])); (have hl2 : ∀ f ∈ [f0], LFine f := fun f hf => hl f (by simp at hf; simp [hf])); (have hn : (ndsL (l' ++ [f0]) 0).length = Lm.sizes l' + f0.size := by rw [ndsL_len, Lm.sizes_app]; simp [Lm.sizes]); (refine ⟨fun i x hx => ?_, fun i j _ _ e => ?_⟩)
  · rw [ndsL_app, Nat.zero_add] at hx
    have k1 := ndsL_len l' 0; rw [nds_ten]
    rcases Nat.lt_or_ge i (Lm.sizes l') with hi | hi
    · rw [List.getElem?_append_left (by omega)] at hx
      (obtain ⟨y, h1, h2, h3, h4, h5, h6⟩ := node_at (fs := l') hl1 (s := 0) (s' := 0) (nt := ndsL l' 0 ++ (⟨2, ⟨#[]⟩, false, Lm.sizes l' + 1, Lm.sizes l' + 1 + f0.size⟩ :: (ndsL [f0] (Lm.sizes l' + 1) ++ ndsL (h0 :: m') (Lm.sizes l' + f0.size + 1)))) (fun j hj => by rw [Nat.zero_add, List.getElem?_append_left (by omega)]) hx); rw [Nat.zero_add] at h1; (refine ⟨y, by unfold fT; rw [if_pos hi]; exact h1, h2, h3, h4, fun hk => ?_⟩); have a5 := h5 hk; have a6 := h6 hk; unfold fT; (rw [if_pos (by omega), if_pos (by omega)]); omega
    · rw [List.getElem?_append_right (by omega), k1] at hx
      obtain ⟨y, h1, h2, h3, h4, h5, h6⟩ := node_at (fs := [f0]) hl2 (s := Lm.sizes l') (s' := Lm.sizes l' + 1) (nt := ndsL l' 0 ++ (⟨2, ⟨#[]⟩, false, Lm.sizes l' + 1, Lm.sizes l' + 1 + f0.size⟩ :: (ndsL [f0] (Lm.sizes l' + 1) ++ ndsL (h0 :: m') (Lm.sizes l' + f0.size + 1)))) (fun j hj => by
        (have := seg_at (a := ndsL l' 0 ++ [⟨2, ⟨#[]⟩, false, Lm.sizes l' + 1, Lm.sizes l' + 1 + f0.size⟩]) (b := ndsL [f0] (Lm.sizes l' + 1)) (c := ndsL (h0 :: m') (Lm.sizes l' + f0.size + 1)) (n := Lm.sizes [f0]) (s := Lm.sizes l' + 1) (j := j) (by simp [k1]) (ndsL_len _ _) hj); rw [← this]
        simp) hx
      (refine ⟨y, by unfold fT; rw [if_neg (by omega), show i + 1 = Lm.sizes l' + 1 + (i - Lm.sizes l') by omega]; exact h1, h2, h3, h4, fun hk => ?_⟩); have a5 := h5 hk; have a6 := h6 hk; unfold fT; (rw [if_neg (by omega), if_neg (by omega)]); omega
  · unfold fT at e
    split at e <;> split at e <;> omega
theorem emb2_ten (hm : ∀ f ∈ h0 :: m', LFine f) : Emb (ndsL (h0 :: m') 0) (ndsL (l' ++ tenL f0 h0 :: m') 0) (fun j => Lm.sizes l' + f0.size + 1 + j) := by
  have k1 := ndsL_len l' 0; have k2 := ndsL_len [f0] (Lm.sizes l' + 1); (refine ⟨fun i x hx => ?_, fun i j _ _ e => by omega⟩); rw [nds_ten]
  obtain ⟨y, h1, h2, h3, h4, h5, h6⟩ := node_at (fs := h0 :: m') hm (s := 0) (s' := Lm.sizes l' + f0.size + 1) (nt := ndsL l' 0 ++ (⟨2, ⟨#[]⟩, false, Lm.sizes l' + 1, Lm.sizes l' + 1 + f0.size⟩ :: (ndsL [f0] (Lm.sizes l' + 1) ++ ndsL (h0 :: m') (Lm.sizes l' + f0.size + 1)))) (fun j hj => by
    (have := seg_at (a := ndsL l' 0 ++ [⟨2, ⟨#[]⟩, false, Lm.sizes l' + 1, Lm.sizes l' + 1 + f0.size⟩] ++ ndsL [f0] (Lm.sizes l' + 1)) (b := ndsL (h0 :: m') (Lm.sizes l' + f0.size + 1)) (c := []) (n := Lm.sizes (h0 :: m')) (s := Lm.sizes l' + f0.size + 1) (j := j) (by simp [k1, k2, Lm.sizes]; omega) (ndsL_len _ _) hj); rw [← this]
    simp) hx
  (refine ⟨y, h1, h2, h3, h4, fun hk => ?_⟩); have a5 := h5 hk; omega
theorem emb1_side {l m : List Lm} : Emb (ndsL l 0) (ndsL (l ++ m) 0) (fun i => i) := by
  have k1 := ndsL_len l 0; (refine ⟨fun i x hx => ?_, fun i j _ _ e => e⟩); have hi := (List.getElem?_eq_some_iff.1 hx).1; (exact ⟨x, by rw [ndsL_app, List.getElem?_append_left hi]; exact hx, rfl, rfl, rfl, fun _ => ⟨rfl, rfl⟩⟩)
theorem emb2_side {l m : List Lm} (hm : ∀ f ∈ m, LFine f) : Emb (ndsL m 0) (ndsL (l ++ m) 0) (fun j => Lm.sizes l + j) := by
  have k1 := ndsL_len l 0; (refine ⟨fun i x hx => ?_, fun i j _ _ e => by omega⟩)
  obtain ⟨y, h1, h2, h3, h4, h5, h6⟩ := node_at (fs := m) hm (s := 0) (s' := Lm.sizes l) (nt := ndsL (l ++ m) 0) (fun j hj => by
    have := seg_at (a := ndsL l 0) (b := ndsL m (Lm.sizes l)) (c := []) (n := Lm.sizes m) (s := Lm.sizes l) (j := j) k1 (ndsL_len _ _) hj; rw [← this, ndsL_app, Nat.zero_add]
    simp) hx
  (refine ⟨y, h1, h2, h3, h4, fun hk => ?_⟩); have a5 := h5 hk; omega
end
end Go.Proofs.Ytealalhgkdlmkai
/- Plain: what Correct says of two nets beside each other, and with a tensor between them. -/
namespace Go.Proofs.Ytealalhgkdlmkai

mutual
theorem jF_move : ∀ (f : Lm) (s s' : Nat), (ndsF f s).map jOf = (ndsF f s').map jOf
  | .mk k n g ks, s, s' => by rw [ndsF, ndsF, List.map_cons, List.map_cons, jL_move ks (s + 1) (s' + 1)]; rfl
theorem jL_move : ∀ (fs : List Lm) (s s' : Nat), (ndsL fs s).map jOf = (ndsL fs s').map jOf
  | [], _, _ => by rw [ndsL, ndsL]
  | f :: fs, s, s' => by rw [ndsL, ndsL, List.map_append, List.map_append, jF_move f s s', jL_move fs (s + f.size) (s' + f.size)]
end
theorem jSum_move (fs : List Lm) (s s' : Nat) : jSum (ndsL fs s) = jSum (ndsL fs s') := by unfold jSum; rw [jL_move fs s s']
end Go.Proofs.Ytealalhgkdlmkai
/- Plain: a net stays one when its last two formulas become one by a par. -/
namespace Go.Proofs.Ytealalhgkdlmkai

/-- The par of two formulas. -/
def parL (f h : Lm) : Lm := .mk 3 ⟨#[]⟩ false [f, h]
section
variable {l' : List Lm} {f0 h0 : Lm}
theorem nds_par : ndsL (l' ++ [parL f0 h0]) 0 = ndsL l' 0 ++ (⟨3, ⟨#[]⟩, false, Lm.sizes l' + 1, Lm.sizes l' + 1 + f0.size⟩ :: ndsL [f0, h0] (Lm.sizes l' + 1)) := by
  rw [ndsL_app, Nat.zero_add, ndsL]; unfold parL; rw [ndsF]; simp only [ndsL, kidA, kidB, List.append_nil]
theorem lvs_par : lvsL (l' ++ [parL f0 h0]) 0 = lvsL l' 0 ++ lvsL [f0, h0] (Lm.sizes l' + 1) := by
  rw [lvsL_app, Nat.zero_add, lvsL]; unfold parL; (rw [lvsF, if_neg (by decide)]); simp only [lvsL, List.nil_append, List.append_nil]
theorem emb_par (hl : ∀ f ∈ l' ++ [f0, h0], LFine f) : Emb (ndsL (l' ++ [f0, h0]) 0) (ndsL (l' ++ [parL f0 h0]) 0) (fT (Lm.sizes l')) := by
  (have hl1 : ∀ f ∈ l', LFine f := fun f hf => hl f (by simp [hf])); (have hl2 : ∀ f ∈ [f0, h0], LFine f := fun f hf => hl f (by simp at hf; simp; right; exact hf)); (refine ⟨fun i x hx => ?_, fun i j _ _ e => ?_⟩)
  · rw [ndsL_app, Nat.zero_add] at hx
    have k1 := ndsL_len l' 0; rw [nds_par]
    rcases Nat.lt_or_ge i (Lm.sizes l') with hi | hi
    · rw [List.getElem?_append_left (by omega)] at hx
      (obtain ⟨y, h1, h2, h3, h4, h5, h6⟩ := node_at (fs := l') hl1 (s := 0) (s' := 0) (nt := ndsL l' 0 ++ (⟨3, ⟨#[]⟩, false, Lm.sizes l' + 1, Lm.sizes l' + 1 + f0.size⟩ :: ndsL [f0, h0] (Lm.sizes l' + 1))) (fun j hj => by rw [Nat.zero_add, List.getElem?_append_left (by omega)]) hx); rw [Nat.zero_add] at h1; (refine ⟨y, by unfold fT; rw [if_pos hi]; exact h1, h2, h3, h4, fun hk => ?_⟩); have a5 := h5 hk; have a6 := h6 hk; unfold fT; (rw [if_pos (by omega), if_pos (by omega)]); omega
    · rw [List.getElem?_append_right (by omega), k1] at hx
      obtain ⟨y, h1, h2, h3, h4, h5, h6⟩ := node_at (fs := [f0, h0]) hl2 (s := Lm.sizes l') (s' := Lm.sizes l' + 1) (nt := ndsL l' 0 ++ (⟨3, ⟨#[]⟩, false, Lm.sizes l' + 1, Lm.sizes l' + 1 + f0.size⟩ :: ndsL [f0, h0] (Lm.sizes l' + 1))) (fun j hj => by
        (have := seg_at (a := ndsL l' 0 ++ [⟨3, ⟨#[]⟩, false, Lm.sizes l' + 1, Lm.sizes l' + 1 + f0.size⟩]) (b := ndsL [f0, h0] (Lm.sizes l' + 1)) (c := []) (n := Lm.sizes [f0, h0]) (s := Lm.sizes l' + 1) (j := j) (by simp [k1]) (ndsL_len _ _) hj); rw [← this]
        simp) hx
      (refine ⟨y, by unfold fT; rw [if_neg (by omega), show i + 1 = Lm.sizes l' + 1 + (i - Lm.sizes l') by omega]; exact h1, h2, h3, h4, fun hk => ?_⟩); have a5 := h5 hk; have a6 := h6 hk; unfold fT; (rw [if_neg (by omega), if_neg (by omega)]); omega
  · unfold fT at e
    split at e <;> split at e <;> omega
theorem lv_par (hl : ∀ f ∈ l' ++ [f0, h0], LFine f) : LvEmb (ndsL (l' ++ [f0, h0]) 0) (ndsL (l' ++ [parL f0 h0]) 0) (lvsL (l' ++ [f0, h0]) 0) (lvsL (l' ++ [parL f0 h0]) 0) (fT (Lm.sizes l')) 0 := by
  (refine ⟨emb_par hl, fun j a ha => ?_, lvIn_plan _⟩); rw [lvsL_app, Nat.zero_add] at ha; show _[j]? = _; rw [lvs_par]
  rcases Nat.lt_or_ge j (lvsL l' 0).length with hj | hj
  · rw [List.getElem?_append_left hj] at ha ⊢
    have := lvsL_in l' 0 a (List.mem_of_getElem? ha); unfold fT; (rw [if_pos (by omega)]); exact ha
  · rw [List.getElem?_append_right hj] at ha ⊢
    have := lvsL_in [f0, h0] (Lm.sizes l') a (List.mem_of_getElem? ha); rw [lvsL_move, List.getElem?_map, ha]; unfold fT; (rw [if_neg (by omega)]); rfl
theorem len_par : (lvsL (l' ++ [parL f0 h0]) 0).length = (lvsL (l' ++ [f0, h0]) 0).length := by
  rw [lvs_par, lvsL_app, List.length_append, List.length_append, lvsL_move, List.length_map, Nat.zero_add]
theorem jSum_par : jSum (ndsL (l' ++ [parL f0 h0]) 0) = jSum (ndsL (l' ++ [f0, h0]) 0) + 1 := by
  (have e : ∀ (x : Nd) (l : List Nd), jSum (x :: l) = jOf x + jSum l := fun x l => by simp [jSum]); rw [nds_par, jSum_app, e, ndsL_app, jSum_app, Nat.zero_add, jSum_move [f0, h0] (Lm.sizes l' + 1) (Lm.sizes l')]; (have : jOf ⟨3, ⟨#[]⟩, false, Lm.sizes l' + 1, Lm.sizes l' + 1 + f0.size⟩ = 1 := by unfold jOf; rw [if_pos rfl]); omega
/-- The way back: the par goes to its first kid. -/
def gP (K i : Nat) : Nat := if i ≤ K then i else i - 1
theorem gP_fT (K i : Nat) : gP K (fT K i) = i := by
  unfold gP fT
  split <;> split <;> omega
theorem par_node : (ndsL (l' ++ [parL f0 h0]) 0)[Lm.sizes l']? = some ⟨3, ⟨#[]⟩, false, Lm.sizes l' + 1, Lm.sizes l' + 1 + f0.size⟩ := by
  (rw [nds_par, List.getElem?_append_right (by rw [ndsL_len]; exact Nat.le_refl _), ndsL_len, Nat.sub_self]); rfl
theorem back_node (hl : ∀ f ∈ l' ++ [f0, h0], LFine f) {i : Nat} {y : Nd} (hy : (ndsL (l' ++ [parL f0 h0]) 0)[i]? = some y) (hi : i ≠ Lm.sizes l') : ∃ p x, i = fT (Lm.sizes l') p ∧ (ndsL (l' ++ [f0, h0]) 0)[p]? = some x ∧ AsN (fT (Lm.sizes l')) x y := by
  have hlt := (List.getElem?_eq_some_iff.1 hy).1; rw [ndsL_len, Lm.sizes_app] at hlt; (have hs : Lm.sizes [parL f0 h0] = Lm.sizes [f0, h0] + 1 := by simp [Lm.sizes, parL, Lm.size])
  obtain ⟨p, hp, hpl⟩ : ∃ p, i = fT (Lm.sizes l') p ∧ p < Lm.sizes (l' ++ [f0, h0]) := by
    refine ⟨gP (Lm.sizes l') i, ?_, ?_⟩
    · unfold gP fT
      split <;> split <;> omega
    · rw [Lm.sizes_app]
      unfold gP
      split <;> omega
  rw [← ndsL_len _ 0] at hpl; obtain ⟨y2, h1, h2⟩ := (emb_par hl).node p _ (List.getElem?_eq_getElem hpl); rw [← hp, hy] at h1
  cases h1
  exact ⟨p, _, hp, List.getElem?_eq_getElem hpl, h2⟩
theorem par_back (hl : ∀ f ∈ l' ++ [f0, h0], LFine f) {mu : Nat → Option Nat} {i j : Nat} (h : Cn (ndsL (l' ++ [parL f0 h0]) 0) (lkE (lvsL (l' ++ [parL f0 h0]) 0) mu) i j) : Cn (ndsL (l' ++ [f0, h0]) 0) (lkE (lvsL (l' ++ [f0, h0]) 0) mu) (gP (Lm.sizes l') i) (gP (Lm.sizes l') j) := by
  (have hs : Lm.sizes [parL f0 h0] = Lm.sizes [f0, h0] + 1 := by simp [Lm.sizes, parL, Lm.size]); (have hp0 : 0 < Lm.sizes [f0, h0] := by cases f0; simp [Lm.sizes, Lm.size]; omega)
  have hlv : ∀ (a i : Nat), (lvsL (l' ++ [parL f0 h0]) 0)[a]? = some i → (lvsL (l' ++ [f0, h0]) 0)[a]? = some (gP (Lm.sizes l') i) := fun a i ha => by
    have hlt := (List.getElem?_eq_some_iff.1 ha).1; rw [len_par] at hlt; have h1 := (lv_par hl).lv a _ (List.getElem?_eq_getElem hlt); rw [Nat.add_zero, ha] at h1; rw [List.getElem?_eq_getElem hlt, Option.some.inj h1, gP_fT]
  induction h with
  | refl i hi =>
    refine Cn.refl _ ?_; rw [ndsL_len, Lm.sizes_app] at hi ⊢; unfold gP
    split <;> omega
  | symm i j _ ih => exact Cn.symm _ _ ih
  | trans i j k _ _ ih1 ih2 => exact Cn.trans _ _ _ ih1 ih2
  | link i j he =>
    obtain ⟨a, m, h1, h2, h3⟩ := he
    exact Cn.link _ _ ⟨a, m, h1, hlv a i h2, hlv m j h3⟩
  | ten0 i y hy hk =>
    have hi : i ≠ Lm.sizes l' := fun e => by
      rw [e, par_node] at hy
      cases hy
      (exact absurd (show (3 : Int) = 2 from hk) (by decide))
    obtain ⟨p, x, rfl, hx, ha⟩ := back_node hl hy hi; have hk2 : x.k = 2 := ha.k.symm.trans hk; rw [(ha.kids (Or.inl hk2)).1, gP_fT, gP_fT]
    exact Cn.ten0 _ x hx hk2
  | ten1 i y hy hk =>
    have hi : i ≠ Lm.sizes l' := fun e => by
      rw [e, par_node] at hy
      cases hy
      (exact absurd (show (3 : Int) = 2 from hk) (by decide))
    obtain ⟨p, x, rfl, hx, ha⟩ := back_node hl hy hi; have hk2 : x.k = 2 := ha.k.symm.trans hk; rw [(ha.kids (Or.inl hk2)).2, gP_fT, gP_fT]
    exact Cn.ten1 _ x hx hk2
  | par i y hy hk _ ih =>
    by_cases hi : i = Lm.sizes l'
    · subst hi
      rw [par_node] at hy
      cases hy
      (have e1 : gP (Lm.sizes l') (Lm.sizes l') = Lm.sizes l' := by unfold gP; rw [if_pos (Nat.le_refl _)]); (have e2 : gP (Lm.sizes l') (Lm.sizes l' + 1) = Lm.sizes l' := by unfold gP; rw [if_neg (by omega)]; omega); show Cn _ _ (gP (Lm.sizes l') (Lm.sizes l')) (gP (Lm.sizes l') (Lm.sizes l' + 1)); rw [e1, e2]; (exact Cn.refl _ (by rw [ndsL_len, Lm.sizes_app]; omega))
    · obtain ⟨p, x, rfl, hx, ha⟩ := back_node hl hy hi
      have hk2 : x.k = 3 := ha.k.symm.trans hk; have hk3 := ha.kids (Or.inr hk2); rw [hk3.1, hk3.2, gP_fT, gP_fT] at ih; rw [hk3.1, gP_fT, gP_fT]; exact Cn.par _ x hx hk2 ih
theorem par_whole (hl : ∀ f ∈ l' ++ [f0, h0], LFine f) {mu : Nat → Option Nat} : WholeN (ndsL (l' ++ [parL f0 h0]) 0) (lkE (lvsL (l' ++ [parL f0 h0]) 0) mu) ↔ WholeN (ndsL (l' ++ [f0, h0]) 0) (lkE (lvsL (l' ++ [f0, h0]) 0) mu) := by
  (have hs : Lm.sizes [parL f0 h0] = Lm.sizes [f0, h0] + 1 := by simp [Lm.sizes, parL, Lm.size]); (have hs2 : Lm.sizes [f0, h0] = f0.size + h0.size := by simp [Lm.sizes]); (have hf0 : 0 < f0.size := by cases f0; simp [Lm.size]); (have hh0 : 0 < h0.size := by cases h0; simp [Lm.size]); (have kn : (ndsL (l' ++ [f0, h0]) 0).length = Lm.sizes l' + (f0.size + h0.size) := by rw [ndsL_len, Lm.sizes_app, hs2]); (have kp : (ndsL (l' ++ [parL f0 h0]) 0).length = Lm.sizes l' + (f0.size + h0.size) + 1 := by rw [ndsL_len, Lm.sizes_app, hs, hs2]; omega)
  constructor
  · intro h i j hi hj
    have h1 := (emb_par hl).lt hi; have h2 := (emb_par hl).lt hj; have := par_back hl (h _ _ h1 h2)
    rwa [gP_fT, gP_fT] at this
  · intro h
    (have hin : ∀ i j, i < (ndsL (l' ++ [f0, h0]) 0).length → j < (ndsL (l' ++ [f0, h0]) 0).length → Cn (ndsL (l' ++ [parL f0 h0]) 0) (lkE (lvsL (l' ++ [parL f0 h0]) 0) mu) (fT (Lm.sizes l') i) (fT (Lm.sizes l') j) := fun i j hi hj => (emb_par hl).cn (fun a b ⟨p, q, e1, e2, e3⟩ => ⟨p, q, e1, (lv_par hl).lv p a e2, (lv_par hl).lv q b e3⟩) (h i j hi hj))
    have hpar : Cn (ndsL (l' ++ [parL f0 h0]) 0) (lkE (lvsL (l' ++ [parL f0 h0]) 0) mu) (Lm.sizes l') (Lm.sizes l' + 1) := by
      (have e := hin (Lm.sizes l') (Lm.sizes l' + f0.size) (by omega) (by omega)); unfold fT at e; (rw [if_neg (by omega), if_neg (by omega)] at e); (rw [show Lm.sizes l' + f0.size + 1 = Lm.sizes l' + 1 + f0.size by omega] at e); exact Cn.par _ _ par_node rfl e
    have hroot : ∀ i, i < (ndsL (l' ++ [parL f0 h0]) 0).length → Cn (ndsL (l' ++ [parL f0 h0]) 0) (lkE (lvsL (l' ++ [parL f0 h0]) 0) mu) (Lm.sizes l' + 1) i := fun i hi => by
      by_cases e : i = Lm.sizes l'
      · subst e
        exact Cn.symm _ _ hpar
      · have h9 := hin (Lm.sizes l') (gP (Lm.sizes l') i) (by omega) (by unfold gP; split <;> omega)
        (have e1 : fT (Lm.sizes l') (Lm.sizes l') = Lm.sizes l' + 1 := by unfold fT; rw [if_neg (by omega)]); (have e2 : fT (Lm.sizes l') (gP (Lm.sizes l') i) = i := by unfold fT gP; split <;> split <;> omega)
        rwa [e1, e2] at h9
    (exact fun i j hi hj => Cn.trans _ _ _ (Cn.symm _ _ (hroot i hi)) (hroot j hj))
/-- What Correct says of a net whose last two formulas become one by a par. -/
theorem par_all {a : List (Int × Int)} {mu : Nat → Option Nat} {c : Nat} (h : netC (l' ++ [f0, h0]) a = .ok mu c) (hsz : Lm.sizes (l' ++ [f0, h0]) ≤ 199) : netC (l' ++ [parL f0 h0]) a = .ok mu c ∧ (CorrN (l' ++ [parL f0 h0]) mu a.length ↔ CorrN (l' ++ [f0, h0]) mu a.length) := by
  obtain ⟨-, g2, hf, -, hk, -⟩ := netC_ok h; obtain ⟨-, -, A1, K1, l1⟩ := linkC_ok hk
  have hfine : ∀ f ∈ l' ++ [parL f0 h0], LFine f := fun f hf2 => by
    rcases List.mem_append.1 hf2 with h | h
    · exact hf f (by simp [h])
    · have e : f = parL f0 h0 := by simpa using h
      rw [e]; (exact LFine.two 3 f0 h0 (Or.inr rfl) (hf f0 (by simp)) (hf h0 (by simp)))
  have hs : Lm.sizes (l' ++ [parL f0 h0]) = Lm.sizes (l' ++ [f0, h0]) + 1 := by
    rw [Lm.sizes_app, Lm.sizes_app]; simp [Lm.sizes, parL, Lm.size]; omega
  (have hcode : lcodeC (l' ++ [parL f0 h0]) = .ok (Lm.sizes (l' ++ [parL f0 h0])) := lcodeC_of (by simp) (by simp at g2 ⊢; omega) hfine (by omega))
  have hlk : linkC (ndsL (l' ++ [parL f0 h0]) 0) (lvsL (l' ++ [parL f0 h0]) 0) a = .ok mu c := by
    unfold linkC; have h1 := lkAll_first (lv_par hf) a [] 0 _ 0 mu c K1; rw [List.append_nil, lkAll] at h1; (rw [len_par, if_neg (by omega), h1]); simp only; rw [firstFree_none A1]
  (refine ⟨by unfold netC; rw [hcode]; exact hlk, ?_⟩); unfold CorrN; rw [par_whole hf, jSum_par, ndsL_len, ndsL_len, hs]
  constructor <;> rintro ⟨e, w⟩ <;> exact ⟨by omega, w⟩
end
end Go.Proofs.Ytealalhgkdlmkai
/- Plain: a formula and its dual, linked straight, are a correct net. -/
namespace Go.Proofs.Ytealalhgkdlmkai

mutual
def dualF : Lm → Lm
  | .mk k n g ks => .mk (if k = 1 then k else 5 - k) n (if k = 1 then !g else false) (dualL ks)
def dualL : List Lm → List Lm
  | [] => []
  | f :: fs => dualF f :: dualL fs
end
theorem dual_atom (n : ByteArray) (b : Bool) : dualF (.mk 1 n b []) = .mk 1 n (!b) [] := by rw [dualF, dualL, if_pos rfl, if_pos rfl]
theorem dual_two (k : Int) (f g : Lm) (h : k = 2 ∨ k = 3) : dualF (.mk k ⟨#[]⟩ false [f, g]) = .mk (5 - k) ⟨#[]⟩ false [dualF f, dualF g] := by
  (rw [dualF, dualL, dualL, dualL, if_neg (by omega), if_neg (by omega)])
theorem dual_fine {f : Lm} (h : LFine f) : LFine (dualF f) := by
  induction h with
  | atom n b h => rw [dual_atom]; exact LFine.atom n _ h
  | two k f g h _ _ ih1 ih2 => rw [dual_two k f g h]; exact LFine.two _ _ _ (by omega) ih1 ih2
theorem dual_size {f : Lm} (h : LFine f) : (dualF f).size = f.size := by
  induction h with
  | atom n b h => rw [dual_atom]; rfl
  | two k f g h _ _ ih1 ih2 => rw [dual_two k f g h]; simp only [Lm.size, Lm.sizes, ih1, ih2]
theorem two_nds (k : Int) (f g : Lm) (s : Nat) : ndsF (.mk k ⟨#[]⟩ false [f, g]) s = ⟨k, ⟨#[]⟩, false, s + 1, s + 1 + f.size⟩ :: (ndsF f (s + 1) ++ ndsF g (s + 1 + f.size)) := by
  rw [ndsF]; simp only [ndsL, kidA, kidB, List.append_nil]
theorem two_lvs (k : Int) (f g : Lm) (s : Nat) (h : k = 2 ∨ k = 3) : lvsF (.mk k ⟨#[]⟩ false [f, g]) s = lvsF f (s + 1) ++ lvsF g (s + 1 + f.size) := by
  (rw [lvsF, if_neg (by omega)]); simp only [lvsL, List.append_nil, List.nil_append]
theorem dual_lvs {f : Lm} (h : LFine f) : ∀ s, lvsF (dualF f) s = lvsF f s := by
  induction h with
  | atom n b h => intro s; rw [dual_atom]; rfl
  | two k f g h hf _ ih1 ih2 => intro s; rw [dual_two k f g h, two_lvs _ _ _ _ (by omega), two_lvs _ _ _ _ h, ih1, ih2, dual_size hf]
/-- How many links and joints there are. -/
theorem dual_joints {f : Lm} (h : LFine f) : ∀ s s', (lvsF f s).length + (jSum (ndsF f s) + jSum (ndsF (dualF f) s')) + 1 = 2 * f.size := by
  (have e : ∀ (x : Nd) (l : List Nd), jSum (x :: l) = jOf x + jSum l := fun x l => by simp [jSum])
  induction h with
  | atom n b h =>
    intro s s'; rw [dual_atom, ndsF, ndsF, ndsL, ndsL, lvsF, lvsL, e, e, if_pos rfl, Lm.size, Lm.sizes]; (have h1 : ∀ x : Nd, x.k = 1 → jOf x = 0 := fun x hx => by unfold jOf; rw [if_neg (by omega), if_neg (by omega)]); rw [h1 _ rfl, h1 _ rfl]
    simp [jSum]
  | two k f g h hf _ ih1 ih2 =>
    intro s s'; rw [dual_two k f g h, two_nds, two_nds, two_lvs _ _ _ _ h, e, e, jSum_app, jSum_app, List.length_append]; have a1 := ih1 (s + 1) (s' + 1); have a2 := ih2 (s + 1 + f.size) (s' + 1 + (dualF f).size); (have a3 : (Lm.mk k ⟨#[]⟩ false [f, g]).size = f.size + g.size + 1 := by simp [Lm.size, Lm.sizes])
    have a4 : jOf ⟨k, ⟨#[]⟩, false, s + 1, s + 1 + f.size⟩ + jOf ⟨5 - k, ⟨#[]⟩, false, s' + 1, s' + 1 + (dualF f).size⟩ = 3 := by
      unfold jOf
      rcases h with rfl | rfl <;> simp
    omega
/-- What stands at a formula's nodes hangs together with what stands at its dual's. -/
theorem dual_cn {nds : List Nd} {E : Nat → Nat → Prop} {D : Nat} {f : Lm} (h : LFine f) : ∀ s, (∀ i u, (ndsF f s)[i]? = some u → nds[s + i]? = some u) → (∀ i u, (ndsF (dualF f) (s + D))[i]? = some u → nds[s + D + i]? = some u) → (∀ a ∈ lvsF f s, E a (a + D)) → ∀ i, i < f.size → Cn nds E s (s + i) ∧ Cn nds E s (s + D + i) := by
  induction h with
  | atom n b h =>
    intro s h1 h2 h3 i hi; (have hi0 : i = 0 := by simp [Lm.size, Lm.sizes] at hi; omega); subst hi0; (have g1 := h1 0 _ (by rw [ndsF]; rfl)); refine ⟨Cn.refl _ (List.getElem?_eq_some_iff.1 g1).1, Cn.link _ _ (h3 s ?_)⟩; rw [lvsF, if_pos rfl]
    simp
  | two k f g h hf hg ih1 ih2 =>
    intro s h1 h2 h3 i hi; (have hs : (Lm.mk k ⟨#[]⟩ false [f, g]).size = f.size + g.size + 1 := by simp [Lm.size, Lm.sizes]); rw [hs] at hi; rw [two_nds] at h1; rw [dual_two k f g h, two_nds, dual_size hf] at h2; rw [two_lvs _ _ _ _ h] at h3; have lf := ndsF_len f (s + 1); have ld := ndsF_len (dualF f) (s + D + 1); rw [dual_size hf] at ld
    have F := ih1 (s + 1) (fun i u hu => by
      (have := h1 (i + 1) u (by rw [List.getElem?_cons_succ, List.getElem?_append_left (by rw [(show (ndsF f (s + 1)).length = f.size from lf)]; have := (List.getElem?_eq_some_iff.1 hu).1; omega)]; exact hu))
      rwa [show s + (i + 1) = s + 1 + i by omega] at this) (fun i u hu => by
      (rw [show s + 1 + D = s + D + 1 by omega] at hu); (have := h2 (i + 1) u (by rw [List.getElem?_cons_succ, List.getElem?_append_left (by have := (List.getElem?_eq_some_iff.1 hu).1; omega)]; exact hu))
      rwa [show s + D + (i + 1) = s + 1 + D + i by omega] at this) (fun a ha => h3 a (List.mem_append_left _ ha))
    have G := ih2 (s + 1 + f.size) (fun i u hu => by
      (have := h1 (i + f.size + 1) u (by rw [List.getElem?_cons_succ, List.getElem?_append_right (by omega), lf, Nat.add_sub_cancel]; exact hu))
      rwa [show s + (i + f.size + 1) = s + 1 + f.size + i by omega] at this) (fun i u hu => by
      (rw [show s + 1 + f.size + D = s + D + 1 + f.size by omega] at hu); (have := h2 (i + f.size + 1) u (by rw [List.getElem?_cons_succ, List.getElem?_append_right (by omega), ld, Nat.add_sub_cancel]; exact hu))
      rwa [show s + D + (i + f.size + 1) = s + 1 + f.size + D + i by omega] at this) (fun a ha => h3 a (List.mem_append_right _ ha))
    (have hf0 : 0 < f.size := by cases f; simp [Lm.size]); (have hg0 : 0 < g.size := by cases g; simp [Lm.size]); have n1 := h1 0 _ rfl; have n2 := h2 0 _ rfl; rw [Nat.add_zero] at n1 n2; have FA := (F 0 hf0).2; have GB := (G 0 hg0).2; rw [Nat.add_zero] at FA GB; have c0 : Cn nds E s s := Cn.refl _ (List.getElem?_eq_some_iff.1 n1).1
    -- the roots
    have key : Cn nds E s (s + 1) ∧ Cn nds E s (s + 1 + f.size) ∧ Cn nds E s (s + D) := by
      rcases h with rfl | rfl
      · have a1 : Cn nds E s (s + 1) := Cn.ten0 s _ n1 rfl
        have a2 : Cn nds E s (s + 1 + f.size) := Cn.ten1 s _ n1 rfl
        have a3 : Cn nds E (s + D + 1) (s + D + 1 + f.size) := by
          (rw [show s + D + 1 = s + 1 + D by omega, show s + 1 + D + f.size = s + 1 + f.size + D by omega]); exact Cn.trans _ _ _ (Cn.symm _ _ FA) (Cn.trans _ _ _ (Cn.symm _ _ a1) (Cn.trans _ _ _ a2 GB))
        have a4 : Cn nds E (s + D) (s + D + 1) := Cn.par _ _ n2 rfl a3; (rw [show s + D + 1 = s + 1 + D by omega] at a4); exact ⟨a1, a2, Cn.trans _ _ _ a1 (Cn.trans _ _ _ FA (Cn.symm _ _ a4))⟩
      · have b1 : Cn nds E (s + D) (s + D + 1) := Cn.ten0 _ _ n2 rfl
        have b2 : Cn nds E (s + D) (s + D + 1 + f.size) := Cn.ten1 _ _ n2 rfl; (rw [show s + D + 1 = s + 1 + D by omega] at b1); (rw [show s + D + 1 + f.size = s + 1 + f.size + D by omega] at b2); have a3 : Cn nds E (s + 1) (s + 1 + f.size) := Cn.trans _ _ _ FA (Cn.trans _ _ _ (Cn.symm _ _ b1) (Cn.trans _ _ _ b2 (Cn.symm _ _ GB))); have a1 : Cn nds E s (s + 1) := Cn.par _ _ n1 rfl a3; exact ⟨a1, Cn.trans _ _ _ a1 a3, Cn.trans _ _ _ a1 (Cn.trans _ _ _ FA (Cn.symm _ _ b1))⟩
    obtain ⟨k1, k2, k3⟩ := key
    rcases Nat.eq_zero_or_pos i with h0 | h0
    · subst h0
      rw [Nat.add_zero, Nat.add_zero]; exact ⟨c0, k3⟩
    · rcases Nat.lt_or_ge (i - 1) f.size with hj | hj
      · obtain ⟨p, q⟩ := F (i - 1) hj
        (rw [show s + 1 + (i - 1) = s + i by omega] at p); (rw [show s + 1 + D + (i - 1) = s + D + i by omega] at q); exact ⟨Cn.trans _ _ _ k1 p, Cn.trans _ _ _ k1 q⟩
      · obtain ⟨p, q⟩ := G (i - 1 - f.size) (by omega)
        (rw [show s + 1 + f.size + (i - 1 - f.size) = s + i by omega] at p); (rw [show s + 1 + f.size + D + (i - 1 - f.size) = s + D + i by omega] at q); exact ⟨Cn.trans _ _ _ k2 p, Cn.trans _ _ _ k2 q⟩
/-- A leaf and the dual's leaf fit. -/
theorem dual_leaf {f : Lm} (h : LFine f) : ∀ s s' a, a ∈ lvsF f s → ∃ u v, (ndsF f s)[a - s]? = some u ∧ (ndsF (dualF f) s')[a - s]? = some v ∧ fitB u v = true := by
  induction h with
  | atom n b h =>
    intro s s' a ha; rw [lvsF, if_pos rfl, lvsL] at ha; (have e : a = s := by simpa using ha); subst e; rw [dual_atom, Nat.sub_self, ndsF, ndsF]
    exact ⟨_, _, rfl, rfl, by unfold fitB; cases b <;> simp⟩
  | two k f g h hf hg ih1 ih2 =>
    intro s s' a ha; rw [two_lvs _ _ _ _ h] at ha; rw [two_nds, dual_two k f g h, two_nds, dual_size hf]; have lf := ndsF_len f (s + 1); have ld := ndsF_len (dualF f) (s' + 1); rw [dual_size hf] at ld
    rcases List.mem_append.1 ha with ha | ha
    · have hin := lvsL_in [f] (s + 1) a (by rw [lvsL, lvsL, List.append_nil]; exact ha)
      simp only [Lm.sizes, Nat.add_zero] at hin; obtain ⟨u, v, h1, h2, h3⟩ := ih1 (s + 1) (s' + 1) a ha; refine ⟨u, v, ?_, ?_, h3⟩
      · rw [show a - s = (a - (s + 1)) + 1 by omega, List.getElem?_cons_succ, List.getElem?_append_left (by omega)]
        exact h1
      · rw [show a - s = (a - (s + 1)) + 1 by omega, List.getElem?_cons_succ, List.getElem?_append_left (by omega)]
        exact h2
    · have hin := lvsL_in [g] (s + 1 + f.size) a (by rw [lvsL, lvsL, List.append_nil]; exact ha)
      simp only [Lm.sizes, Nat.add_zero] at hin; obtain ⟨u, v, h1, h2, h3⟩ := ih2 (s + 1 + f.size) (s' + 1 + f.size) a ha; refine ⟨u, v, ?_, ?_, h3⟩
      · rw [show a - s = (a - (s + 1 + f.size)) + f.size + 1 by omega, List.getElem?_cons_succ, List.getElem?_append_right (by omega), lf, Nat.add_sub_cancel]
        exact h1
      · rw [show a - s = (a - (s + 1 + f.size)) + f.size + 1 by omega, List.getElem?_cons_succ, List.getElem?_append_right (by omega), ld, Nat.add_sub_cancel]
        exact h2
/-- The straight links. -/
def idLk (n i m : Nat) : List (Int × Int) := (List.range' i m).map fun (j : Nat) => ((j : Int), (n : Int) + (j : Int))
def muId (n i : Nat) : Nat → Option Nat := fun j => if j < i then some (n + j) else if n ≤ j ∧ j < n + i then some (j - n) else none
theorem muId_step (n i : Nat) (h : i < n) : muLink (muId n i) ((i : Int), (n : Int) + (i : Int)) = muId n (i + 1) := by
  (have e : ((n : Int) + (i : Int)).toNat = n + i := by omega)
  funext j
  unfold muLink muPut muId; simp only [e, Int.toNat_natCast]; by_cases h1 : j = n + i
  · rw [if_pos h1, if_neg (by omega), if_pos (by omega)]
    congr 1
    omega
  · rw [if_neg h1]
    by_cases h2 : j = i
    · rw [if_pos h2, if_pos (by omega), h2]
    · rw [if_neg h2]
      by_cases h3 : j < i
      · rw [if_pos h3, if_pos (by omega)]
      · by_cases h4 : n ≤ j ∧ j < n + i
        · rw [if_neg h3, if_pos h4, if_neg (by omega), if_pos (by omega)]
        · rw [if_neg h3, if_neg h4, if_neg (by omega), if_neg (by omega)]
theorem idLk_all {nds : List Nd} {lvs : List Nat} {n : Nat} (hlen : lvs.length = n + n) (hfit : ∀ i, i < n → ∃ a b u v, lvs[i]? = some a ∧ lvs[n + i]? = some b ∧ nds[a]? = some u ∧ nds[b]? = some v ∧ fitB u v = true) : ∀ (m i c : Nat), i + m = n → ∃ c', lkAll nds lvs (idLk n i m) i (muId n i) c = .ok (muId n n) c'
  | 0, i, c, h => by
    (have : i = n := by omega); subst this
    exact ⟨c, rfl⟩
  | m + 1, i, c, h => by
    (obtain ⟨c', hc⟩ := idLk_all hlen hfit m (i + 1) (c + 2) (by omega)); refine ⟨c', ?_⟩; (obtain ⟨a, b, u, v, h1, h2, h3, h4, h5⟩ := hfit i (by omega)); (have e : idLk n i (m + 1) = ((i : Int), (n : Int) + (i : Int)) :: idLk n (i + 1) m := by unfold idLk; rw [List.range'_succ, List.map_cons]); (have o1 : okL lvs.length (muId n i) (i : Int) = none := okL_fine rfl (by omega) (by unfold muId; rw [if_neg (by omega), if_neg (by omega)]; rfl)); (have o2 : okL lvs.length (muId n i) ((n : Int) + (i : Int)) = none := okL_fine (k := n + i) (by omega) (by omega) (by unfold muId; rw [if_neg (by omega), if_neg (by omega)]; rfl)); (have e2 : ((n : Int) + (i : Int)).toNat = n + i := by omega)
    have hb : lkBad nds lvs (muId n i) ((i : Int), (n : Int) + (i : Int)) = none := by
      unfold lkBad; simp only [o1, o2, e2, Int.toNat_natCast, h1, h2, h3, h4, h5, if_true]
    rw [e, lkAll, hb]; simp only; (rw [muId_step n i (by omega)]); exact hc
/-- What Correct says of a formula and its dual, linked straight. -/
theorem id_all {f : Lm} (h : LFine f) (hs : f.size ≤ 100) : ∃ mu c, netC [f, dualF f] (idLk (lvsF f 0).length 0 (lvsF f 0).length) = .ok mu c ∧ CorrN [f, dualF f] mu (idLk (lvsF f 0).length 0 (lvsF f 0).length).length := by
  have hd := dual_size h; (have hsz : Lm.sizes [f, dualF f] = f.size + f.size := by simp only [Lm.sizes, hd]; omega); (have hn : ndsL [f, dualF f] 0 = ndsF f 0 ++ ndsF (dualF f) f.size := by simp only [ndsL, Nat.zero_add, List.append_nil])
  have hl : lvsL [f, dualF f] 0 = lvsF f 0 ++ (lvsF f 0).map (· + f.size) := by
    have := lvsF_move f 0 f.size; rw [Nat.zero_add] at this; simp only [lvsL, Nat.zero_add, List.append_nil, dual_lvs h, this]
  have hfine : ∀ g ∈ [f, dualF f], LFine g := fun g hg => by
    simp only [List.mem_cons, List.not_mem_nil, or_false] at hg
    rcases hg with rfl | rfl
    · exact h
    · exact dual_fine h
  (have hcode : lcodeC [f, dualF f] = .ok (Lm.sizes [f, dualF f]) := lcodeC_of (by simp) (by simp) hfine (by omega)); have lf := ndsF_len f 0; obtain ⟨n, hnn⟩ : ∃ n, n = (lvsF f 0).length := ⟨_, rfl⟩; rw [← hnn]; (have hlen : (lvsL [f, dualF f] 0).length = n + n := by rw [hl, List.length_append, List.length_map, hnn])
  have hlv : ∀ i, i < n → ∃ a, a ∈ lvsF f 0 ∧ (lvsL [f, dualF f] 0)[i]? = some a ∧ (lvsL [f, dualF f] 0)[n + i]? = some (a + f.size) := fun i hi => by
    (obtain ⟨a, hg⟩ : ∃ a, (lvsF f 0)[i]? = some a := ⟨_, List.getElem?_eq_getElem (by omega)⟩); refine ⟨a, List.mem_of_getElem? hg, ?_, ?_⟩
    · rw [hl, List.getElem?_append_left (by omega)]
      exact hg
    · rw [hl, List.getElem?_append_right (by omega), ← hnn, Nat.add_sub_cancel_left, List.getElem?_map, hg]
      rfl
  have hin : ∀ a ∈ lvsF f 0, a < f.size := fun a ha => by
    (have := lvsL_in [f] 0 a (by rw [lvsL, lvsL, List.append_nil]; exact ha)); simp only [Lm.sizes, Nat.add_zero, Nat.zero_add] at this; exact this.2
  have N1 : ∀ i u, (ndsF f 0)[i]? = some u → (ndsL [f, dualF f] 0)[i]? = some u := fun i u hu => by
    rw [hn, List.getElem?_append_left (List.getElem?_eq_some_iff.1 hu).1]; exact hu
  have N2 : ∀ i u, (ndsF (dualF f) f.size)[i]? = some u → (ndsL [f, dualF f] 0)[f.size + i]? = some u := fun i u hu => by
    (rw [hn, List.getElem?_append_right (by omega), lf, Nat.add_sub_cancel_left]); exact hu
  have hfit : ∀ i, i < n → ∃ a b u v, (lvsL [f, dualF f] 0)[i]? = some a ∧ (lvsL [f, dualF f] 0)[n + i]? = some b ∧ (ndsL [f, dualF f] 0)[a]? = some u ∧ (ndsL [f, dualF f] 0)[b]? = some v ∧ fitB u v = true := fun i hi => by
    obtain ⟨a, ha, h1, h2⟩ := hlv i hi; obtain ⟨u, v, h3, h4, h5⟩ := dual_leaf h 0 f.size a ha; rw [Nat.sub_zero] at h3 h4; have := N2 a v h4; rw [Nat.add_comm] at this; exact ⟨a, _, u, v, h1, h2, N1 a u h3, this, h5⟩
  (obtain ⟨c, hc⟩ := idLk_all hlen hfit n 0 0 (by omega))
  have hmu0 : muId n 0 = fun _ => none := by
    funext j
    unfold muId; (rw [if_neg (by omega), if_neg (by omega)])
  (have hll : (idLk n 0 n).length = n := by unfold idLk; simp); rw [hmu0] at hc; refine ⟨muId n n, c, ?_, ?_⟩
  · unfold netC
    rw [hcode]; simp only; unfold linkC; (rw [hlen, hll, if_neg (by omega), hc]); simp only
    rw [firstFree_none (fun j hj => by
      unfold muId; by_cases h1 : j < n
      · rw [if_pos h1]; rfl
      · rw [if_neg h1, if_pos (by omega)]; rfl)]
  · rw [hll]
    unfold CorrN; refine ⟨?_, ?_⟩
    · have := dual_joints h 0 f.size
      rw [ndsL_len, hsz, hn, jSum_app]; omega
    · have hE : ∀ a ∈ lvsF f 0, lkE (lvsL [f, dualF f] 0) (muId n n) a (a + f.size) := fun a ha => by
        obtain ⟨i, hi⟩ := List.getElem?_of_mem ha; have hin := (List.getElem?_eq_some_iff.1 hi).1; (obtain ⟨a', -, h1, h2⟩ := hlv i (by omega))
        have e : a' = a := by
          rw [hl, List.getElem?_append_left hin, hi] at h1; exact (Option.some.inj h1).symm
        subst e; (exact ⟨i, n + i, by unfold muId; rw [if_pos (by omega)], h1, h2⟩)
      (have hcn := dual_cn (nds := ndsL [f, dualF f] 0) (E := lkE (lvsL [f, dualF f] 0) (muId n n)) (D := f.size) h 0 (fun i u hu => by rw [Nat.zero_add]; exact N1 i u hu) (fun i u hu => by rw [Nat.zero_add] at hu ⊢; exact N2 i u hu) hE)
      have hr : ∀ i, i < (ndsL [f, dualF f] 0).length → Cn (ndsL [f, dualF f] 0) (lkE (lvsL [f, dualF f] 0) (muId n n)) 0 i := fun i hi => by
        rw [ndsL_len, hsz] at hi
        rcases Nat.lt_or_ge i f.size with h1 | h1
        · have := (hcn i h1).1
          rwa [Nat.zero_add] at this
        · have := (hcn (i - f.size) (by omega)).2
          rwa [show 0 + f.size + (i - f.size) = i by omega] at this
      (exact fun i j hi hj => Cn.trans _ _ _ (Cn.symm _ _ (hr i hi)) (hr j hj))
end Go.Proofs.Ytealalhgkdlmkai
