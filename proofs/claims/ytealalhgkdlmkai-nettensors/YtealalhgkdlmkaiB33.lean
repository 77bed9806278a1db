/- Texts of one proof, one behind the other: NTQ, NTR, NTS. -/
import Derived.Test.YtealalhgkdlmkaiB31
/- Plain: the links of two nets together. -/
namespace Go.Proofs.Ytealalhgkdlmkai

/-- Leaves of a plan within another: leaf j of the one is leaf j + d of the other, and its node is like it. -/
structure LvEmb (nds nds' : List Nd) (lvs lvs' : List Nat) (f : Nat → Nat) (d : Nat) : Prop where
  emb : Emb nds nds' f
  lv : ∀ j a : Nat, lvs[j]? = some a → lvs'[j + d]? = some (f a)
  lin : LvIn nds lvs
/-- A link that is fine in the one is fine in the other, where no more is linked. -/
theorem lkBad_emb {nds nds' : List Nd} {lvs lvs' : List Nat} {f : Nat → Nat} {d : Nat} (h : LvEmb nds nds' lvs lvs' f d) {mu mu' : Nat → Option Nat} (hmu : ∀ j, j < lvs.length → mu j = none → mu' (j + d) = none) {x y : Int} (hb : lkBad nds lvs mu (x, y) = none) : lkBad nds' lvs' mu' ((d : Int) + x, (d : Int) + y) = none := by
  obtain ⟨a, b, rfl, rfl, ha, hb2, hab, hma, hmb, na, nb, u, v, hna, hnb, hu, hv, hf⟩ := lkBad_none hb; (have e1 : ((d : Int) + (a : Int)) = ((a + d : Nat) : Int) := by omega); (have e2 : ((d : Int) + (b : Int)) = ((b + d : Nat) : Int) := by omega); have l1 := h.lv a na hna; have l2 := h.lv b nb hnb; have g1 := (List.getElem?_eq_some_iff.1 l1).1; have g2 := (List.getElem?_eq_some_iff.1 l2).1; obtain ⟨u', hu', au⟩ := h.emb.node na u hu; obtain ⟨v', hv', av⟩ := h.emb.node nb v hv; (have hf' : fitB u' v' = true := by unfold fitB at hf ⊢; rw [au.n, au.g, av.n, av.g]; exact hf); (have o1 : okL lvs'.length mu' ((a + d : Nat) : Int) = none := okL_fine rfl g1 (by rw [hmu a ha hma]; rfl)); (have o2 : okL lvs'.length mu' ((b + d : Nat) : Int) = none := okL_fine rfl g2 (by rw [hmu b hb2 hmb]; rfl)); rw [e1, e2]; unfold lkBad; simp only [o1, o2, Int.toNat_natCast, l1, l2, hu', hv', hf', if_true]
/-- The mates of both: those of the first ahead, those of the second moved by d. -/
def muTwo (mu1 mu2 : Nat → Option Nat) (d : Nat) : Nat → Option Nat := fun j => if j < d then mu1 j else (mu2 (j - d)).map (· + d)
theorem lkAll_first {nds nds' : List Nd} {lvs lvs' : List Nat} {f : Nat → Nat} (h : LvEmb nds nds' lvs lvs' f 0) : ∀ (ax bx : List (Int × Int)) (i : Nat) (mu : Nat → Option Nat) (c : Nat) (mu1 : Nat → Option Nat) (c1 : Nat), lkAll nds lvs ax i mu c = .ok mu1 c1 → lkAll nds' lvs' (ax ++ bx) i mu c = lkAll nds' lvs' bx (i + ax.length) mu1 c1
  | [], bx, i, mu, c, mu1, c1, hl => by
    rw [lkAll] at hl
    cases hl
    rfl
  | (x, y) :: ps, bx, i, mu, c, mu1, c1, hl => by
    rw [lkAll] at hl
    split at hl
    · cases hl
    · rename_i hb
      (have hb2 := lkBad_emb h (mu' := mu) (fun j _ hj => hj) hb); simp only [Int.natCast_zero, Int.zero_add] at hb2; rw [List.cons_append, lkAll, hb2]; simp only; rw [lkAll_first h ps bx (i + 1) _ _ mu1 c1 hl, List.length_cons]
      congr 1
      omega
theorem muTwo_link {mu1 mu2 : Nat → Option Nat} {d a b : Nat} : muLink (muTwo mu1 mu2 d) ((d : Int) + (a : Int), (d : Int) + (b : Int)) = muTwo mu1 (muLink mu2 ((a : Int), (b : Int))) d := by
  (have e1 : ((d : Int) + (a : Int)).toNat = d + a := by omega); (have e2 : ((d : Int) + (b : Int)).toNat = d + b := by omega)
  funext j
  unfold muLink muTwo muPut; simp only [e1, e2, Int.toNat_natCast]; by_cases h1 : j < d
  · rw [if_neg (by omega), if_neg (by omega), if_pos h1, if_pos h1]
  · rw [if_neg h1, if_neg h1]
    by_cases h2 : j = d + b
    · rw [if_pos h2, if_pos (by omega)]
      simp; omega
    · rw [if_neg h2, if_neg (show ¬ j - d = b by omega)]
      by_cases h3 : j = d + a
      · rw [if_pos h3, if_pos (by omega)]
        simp; omega
      · rw [if_neg h3, if_neg (by omega)]
theorem lkAll_second {nds nds' : List Nd} {lvs lvs' : List Nat} {f : Nat → Nat} {d : Nat} (h : LvEmb nds nds' lvs lvs' f d) (mu1 : Nat → Option Nat) : ∀ (bx : List (Int × Int)) (i i' : Nat) (mu : Nat → Option Nat) (c c' : Nat) (mu2 : Nat → Option Nat) (c2 : Nat), lkAll nds lvs bx i mu c = .ok mu2 c2 → ∃ c3, lkAll nds' lvs' (bx.map fun p => ((d : Int) + p.1, (d : Int) + p.2)) i' (muTwo mu1 mu d) c' = .ok (muTwo mu1 mu2 d) c3
  | [], i, i', mu, c, c', mu2, c2, hl => by
    rw [lkAll] at hl
    cases hl
    exact ⟨c', rfl⟩
  | (x, y) :: ps, i, i', mu, c, c', mu2, c2, hl => by
    rw [lkAll] at hl
    split at hl
    · cases hl
    · rename_i hb
      (have hb2 := lkBad_emb h (mu' := muTwo mu1 mu d) (fun j _ hj => by unfold muTwo; rw [if_neg (by omega), Nat.add_sub_cancel, hj]; rfl) hb); obtain ⟨a, b, rfl, rfl, -⟩ := lkBad_none hb; rw [List.map_cons, lkAll]; simp only; rw [hb2]; simp only; rw [muTwo_link]; exact lkAll_second h mu1 ps (i + 1) (i' + 1) _ _ _ mu2 c2 hl
end Go.Proofs.Ytealalhgkdlmkai
/- Plain: two nets beside each other, and with a tensor between them. -/
namespace Go.Proofs.Ytealalhgkdlmkai

/-- The tensor of two formulas. -/
def tenL (f h : Lm) : Lm := .mk 2 ⟨#[]⟩ false [f, h]
theorem nds_ten (l' m' : List Lm) (f h : Lm) : ndsL (l' ++ tenL f h :: m') 0 = ndsL l' 0 ++ (⟨2, ⟨#[]⟩, false, Lm.sizes l' + 1, Lm.sizes l' + 1 + f.size⟩ :: (ndsL [f] (Lm.sizes l' + 1) ++ ndsL (h :: m') (Lm.sizes l' + f.size + 1))) := by
  (have e : Lm.sizes l' + (tenL f h).size = Lm.sizes l' + f.size + 1 + h.size := by simp [tenL, Lm.size, Lm.sizes]; omega); rw [ndsL_app, Nat.zero_add, ndsL, e]; unfold tenL; rw [ndsF]; simp only [ndsL, kidA, kidB, List.append_nil, List.cons_append, List.append_assoc]; (rw [show Lm.sizes l' + 1 + f.size = Lm.sizes l' + f.size + 1 by omega])
theorem lvs_ten (l' m' : List Lm) (f h : Lm) : lvsL (l' ++ tenL f h :: m') 0 = lvsL l' 0 ++ (lvsL [f] (Lm.sizes l' + 1) ++ lvsL (h :: m') (Lm.sizes l' + f.size + 1)) := by
  (have e : Lm.sizes l' + (tenL f h).size = Lm.sizes l' + f.size + 1 + h.size := by simp [tenL, Lm.size, Lm.sizes]; omega); rw [lvsL_app, Nat.zero_add, lvsL, e]; unfold tenL; (rw [lvsF, if_neg (by decide)]); simp only [lvsL, List.nil_append, List.append_nil, List.append_assoc]; (rw [show Lm.sizes l' + 1 + f.size = Lm.sizes l' + f.size + 1 by omega])
theorem jSum_app (a b : List Nd) : jSum (a ++ b) = jSum a + jSum b := by simp [jSum]
/-- A node of a list of fine formulas, wherever the list stands. -/
theorem node_at {fs : List Lm} (hf : ∀ f ∈ fs, LFine f) {s s' i : Nat} {x : Nd} {nt : List Nd} (hs : ∀ j, j < Lm.sizes fs → nt[s' + j]? = (ndsL fs s')[j]?) (hx : (ndsL fs s)[i]? = some x) : ∃ y, nt[s' + i]? = some y ∧ y.k = x.k ∧ y.n = x.n ∧ y.g = x.g ∧ (x.k = 2 ∨ x.k = 3 → y.a + s = x.a + s' ∧ y.b + s = x.b + s') ∧ (x.k = 2 ∨ x.k = 3 → s < x.a ∧ x.a < s + Lm.sizes fs ∧ s < x.b ∧ x.b < s + Lm.sizes fs) := by
  (have hi : i < Lm.sizes fs := by have := (List.getElem?_eq_some_iff.1 hx).1; rwa [ndsL_len] at this); obtain ⟨y, h1, h2, h3, h4, h5⟩ := ndsL_move fs hf s s' i x hx; (exact ⟨y, by rw [hs i hi]; exact h1, h2, h3, h4, h5, fun hk => ndsL_kids fs s hf x (List.mem_of_getElem? hx) hk⟩)
theorem seg_at {a b c : List Nd} {n s j : Nat} (ha : a.length = s) (hb : b.length = n) (hj : j < n) : (a ++ (b ++ c))[s + j]? = b[j]? := by
  (rw [List.getElem?_append_right (by omega), List.getElem?_append_left (by omega), ha, Nat.add_sub_cancel_left])
section
variable {l' m' : List Lm} {f0 h0 : Lm}
/-- Where the first net's nodes come to. -/
def fT (K : Nat) (i : Nat) : Nat := if i < K then i else i + 1
theorem emb1_ten (hl : ∀ f ∈ l' ++ [f0], LFine f) : Emb (ndsL (l' ++ [f0]) 0) (ndsL (l' ++ tenL f0 h0 :: m') 0) (fT (Lm.sizes l')) := by
  (have hl1 : ∀ f ∈ l', LFine f := fun f hf => hl f (by simp [hf])); (have hl2 : ∀ f ∈ [f0], LFine f := fun f hf => hl f (by simp at hf; simp [hf])); (have hn : (ndsL (l' ++ [f0]) 0).length = Lm.sizes l' + f0.size := by rw [ndsL_len, Lm.sizes_app]; simp [Lm.sizes]); (refine ⟨fun i x hx => ?_, fun i j _ _ e => ?_⟩)
  · rw [ndsL_app, Nat.zero_add] at hx
    have k1 := ndsL_len l' 0; rw [nds_ten]
    rcases Nat.lt_or_ge i (Lm.sizes l') with hi | hi
    · rw [List.getElem?_append_left (by omega)] at hx
      (obtain ⟨y, h1, h2, h3, h4, h5, h6⟩ := node_at (fs := l') hl1 (s := 0) (s' := 0) (nt := ndsL l' 0 ++ (⟨2, ⟨#[]⟩, false, Lm.sizes l' + 1, Lm.sizes l' + 1 + f0.size⟩ :: (ndsL [f0] (Lm.sizes l' + 1) ++ ndsL (h0 :: m') (Lm.sizes l' + f0.size + 1)))) (fun j hj => by rw [Nat.zero_add, List.getElem?_append_left (by omega)]) hx); rw [Nat.zero_add] at h1; (refine ⟨y, by unfold fT; rw [if_pos hi]; exact h1, h2, h3, h4, fun hk => ?_⟩); have a5 := h5 hk; have a6 := h6 hk; unfold fT; (rw [if_pos (by omega), if_pos (by omega)]); omega
    · rw [List.getElem?_append_right (by omega), k1] at hx
      obtain ⟨y, h1, h2, h3, h4, h5, h6⟩ := node_at (fs := [f0]) hl2 (s := Lm.sizes l') (s' := Lm.sizes l' + 1) (nt := ndsL l' 0 ++ (⟨2, ⟨#[]⟩, false, Lm.sizes l' + 1, Lm.sizes l' + 1 + f0.size⟩ :: (ndsL [f0] (Lm.sizes l' + 1) ++ ndsL (h0 :: m') (Lm.sizes l' + f0.size + 1)))) (fun j hj => by
        (have := seg_at (a := ndsL l' 0 ++ [⟨2, ⟨#[]⟩, false, Lm.sizes l' + 1, Lm.sizes l' + 1 + f0.size⟩]) (b := ndsL [f0] (Lm.sizes l' + 1)) (c := ndsL (h0 :: m') (Lm.sizes l' + f0.size + 1)) (n := Lm.sizes [f0]) (s := Lm.sizes l' + 1) (j := j) (by simp [k1]) (ndsL_len _ _) hj); rw [← this]
        simp) hx
      (refine ⟨y, by unfold fT; rw [if_neg (by omega), show i + 1 = Lm.sizes l' + 1 + (i - Lm.sizes l') by omega]; exact h1, h2, h3, h4, fun hk => ?_⟩); have a5 := h5 hk; have a6 := h6 hk; unfold fT; (rw [if_neg (by omega), if_neg (by omega)]); omega
  · unfold fT at e
    split at e <;> split at e <;> omega
theorem emb2_ten (hm : ∀ f ∈ h0 :: m', LFine f) : Emb (ndsL (h0 :: m') 0) (ndsL (l' ++ tenL f0 h0 :: m') 0) (fun j => Lm.sizes l' + f0.size + 1 + j) := by
  have k1 := ndsL_len l' 0; have k2 := ndsL_len [f0] (Lm.sizes l' + 1); (refine ⟨fun i x hx => ?_, fun i j _ _ e => by omega⟩); rw [nds_ten]
  obtain ⟨y, h1, h2, h3, h4, h5, h6⟩ := node_at (fs := h0 :: m') hm (s := 0) (s' := Lm.sizes l' + f0.size + 1) (nt := ndsL l' 0 ++ (⟨2, ⟨#[]⟩, false, Lm.sizes l' + 1, Lm.sizes l' + 1 + f0.size⟩ :: (ndsL [f0] (Lm.sizes l' + 1) ++ ndsL (h0 :: m') (Lm.sizes l' + f0.size + 1)))) (fun j hj => by
    (have := seg_at (a := ndsL l' 0 ++ [⟨2, ⟨#[]⟩, false, Lm.sizes l' + 1, Lm.sizes l' + 1 + f0.size⟩] ++ ndsL [f0] (Lm.sizes l' + 1)) (b := ndsL (h0 :: m') (Lm.sizes l' + f0.size + 1)) (c := []) (n := Lm.sizes (h0 :: m')) (s := Lm.sizes l' + f0.size + 1) (j := j) (by simp [k1, k2, Lm.sizes]; omega) (ndsL_len _ _) hj); rw [← this]
    simp) hx
  (refine ⟨y, h1, h2, h3, h4, fun hk => ?_⟩); have a5 := h5 hk; omega
theorem emb1_side {l m : List Lm} : Emb (ndsL l 0) (ndsL (l ++ m) 0) (fun i => i) := by
  have k1 := ndsL_len l 0; (refine ⟨fun i x hx => ?_, fun i j _ _ e => e⟩); have hi := (List.getElem?_eq_some_iff.1 hx).1; (exact ⟨x, by rw [ndsL_app, List.getElem?_append_left hi]; exact hx, rfl, rfl, rfl, fun _ => ⟨rfl, rfl⟩⟩)
theorem emb2_side {l m : List Lm} (hm : ∀ f ∈ m, LFine f) : Emb (ndsL m 0) (ndsL (l ++ m) 0) (fun j => Lm.sizes l + j) := by
  have k1 := ndsL_len l 0; (refine ⟨fun i x hx => ?_, fun i j _ _ e => by omega⟩)
  obtain ⟨y, h1, h2, h3, h4, h5, h6⟩ := node_at (fs := m) hm (s := 0) (s' := Lm.sizes l) (nt := ndsL (l ++ m) 0) (fun j hj => by
    have := seg_at (a := ndsL l 0) (b := ndsL m (Lm.sizes l)) (c := []) (n := Lm.sizes m) (s := Lm.sizes l) (j := j) k1 (ndsL_len _ _) hj; rw [← this, ndsL_app, Nat.zero_add]
    simp) hx
  (refine ⟨y, h1, h2, h3, h4, fun hk => ?_⟩); have a5 := h5 hk; omega
end
end Go.Proofs.Ytealalhgkdlmkai
/- Plain: what Correct says of two nets beside each other, and with a tensor between them. -/
namespace Go.Proofs.Ytealalhgkdlmkai

section
variable {n1 n2 nt : List Nd} {v1 v2 vt : List Nat} {f g : Nat → Nat} {d : Nat} {mu1 mu2 : Nat → Option Nat}
theorem linkC_two (L1 : LvEmb n1 nt v1 vt f 0) (L2 : LvEmb n2 nt v2 vt g d) (hd : v1.length = d) (hvt : vt.length = d + v2.length) {a b : List (Int × Int)} {c1 c2 : Nat} (h1 : linkC n1 v1 a = .ok mu1 c1) (h2 : linkC n2 v2 b = .ok mu2 c2) : ∃ c3, linkC nt vt (a ++ b.map fun p => ((d : Int) + p.1, (d : Int) + p.2)) = .ok (muTwo mu1 mu2 d) c3 := by
  obtain ⟨M1, -, A1, K1, l1⟩ := linkC_ok h1; obtain ⟨M2, -, A2, K2, l2⟩ := linkC_ok h2
  have e1 : mu1 = muTwo mu1 (fun _ => none) d := by
    funext j
    unfold muTwo
    split
    · rfl
    · rename_i hj
      cases hm : mu1 j with
      | none => rfl
      | some m => have := M1.lt j m hm; omega
  (have k1 := lkAll_first L1 a (b.map fun p => ((d : Int) + p.1, (d : Int) + p.2)) 0 _ 0 mu1 c1 K1); (obtain ⟨c3, k2⟩ := lkAll_second L2 mu1 b 0 (0 + a.length) (fun _ => none) 0 c1 mu2 c2 K2); rw [← e1] at k2; refine ⟨c3, ?_⟩; unfold linkC; (rw [if_neg (by simp; omega), k1, k2]); simp only; rw [firstFree_none]; intro j hj; unfold muTwo
  split
  · exact A1 j (by omega)
  · have := A2 (j - d) (by omega)
    cases hm : mu2 (j - d) with
    | none => rw [hm] at this; cases this
    | some m => rfl
theorem lkE_two (L1 : LvEmb n1 nt v1 vt f 0) (L2 : LvEmb n2 nt v2 vt g d) (hd : v1.length = d) (M1 : MuOk v1.length mu1) (M2 : MuOk v2.length mu2) : (∀ i j, lkE vt (muTwo mu1 mu2 d) i j → (∃ p q, i = f p ∧ j = f q ∧ p < n1.length ∧ q < n1.length ∧ lkE v1 mu1 p q) ∨ (∃ p q, i = g p ∧ j = g q ∧ p < n2.length ∧ q < n2.length ∧ lkE v2 mu2 p q)) ∧ (∀ p q, lkE v1 mu1 p q → lkE vt (muTwo mu1 mu2 d) (f p) (f q)) ∧ (∀ p q, lkE v2 mu2 p q → lkE vt (muTwo mu1 mu2 d) (g p) (g q)) := by
  (refine ⟨fun i j h => ?_, fun p q h => ?_, fun p q h => ?_⟩)
  · obtain ⟨a, m, hm, ha, hb⟩ := h
    unfold muTwo at hm
    split at hm
    · rename_i had
      have hlt := M1.lt a m hm; obtain ⟨x, hx⟩ : ∃ x, v1[a]? = some x := ⟨_, List.getElem?_eq_getElem hlt.1⟩; obtain ⟨y, hy⟩ : ∃ x, v1[m]? = some x := ⟨_, List.getElem?_eq_getElem hlt.2⟩; have h1 := L1.lv a x hx; have h2 := L1.lv m y hy; rw [Nat.add_zero] at h1 h2; rw [h1] at ha; rw [h2] at hb
      cases ha
      cases hb
      exact Or.inl ⟨x, y, rfl, rfl, L1.lin a x hx, L1.lin m y hy, a, m, hm, hx, hy⟩
    · rename_i had
      obtain ⟨m2, hm2, rfl⟩ := Option.map_eq_some_iff.1 hm; have hlt := M2.lt (a - d) m2 hm2; obtain ⟨x, hx⟩ : ∃ x, v2[a - d]? = some x := ⟨_, List.getElem?_eq_getElem hlt.1⟩; obtain ⟨y, hy⟩ : ∃ x, v2[m2]? = some x := ⟨_, List.getElem?_eq_getElem hlt.2⟩; have h1 := L2.lv (a - d) x hx; have h2 := L2.lv m2 y hy; (rw [show a - d + d = a by omega] at h1); rw [h1] at ha; rw [h2] at hb
      cases ha
      cases hb
      exact Or.inr ⟨x, y, rfl, rfl, L2.lin (a - d) x hx, L2.lin m2 y hy, a - d, m2, hm2, hx, hy⟩
  · obtain ⟨a, m, hm, ha, hb⟩ := h
    have hlt := M1.lt a m hm; refine ⟨a, m, ?_, L1.lv a p ha, L1.lv m q hb⟩; unfold muTwo; (rw [if_pos (by omega)]); exact hm
  · obtain ⟨a, m, hm, ha, hb⟩ := h
    refine ⟨a + d, m + d, ?_, L2.lv a p ha, L2.lv m q hb⟩; unfold muTwo; (rw [if_neg (by omega), Nat.add_sub_cancel, hm]); rfl
end
mutual
theorem jF_move : ∀ (f : Lm) (s s' : Nat), (ndsF f s).map jOf = (ndsF f s').map jOf
  | .mk k n g ks, s, s' => by rw [ndsF, ndsF, List.map_cons, List.map_cons, jL_move ks (s + 1) (s' + 1)]; rfl
theorem jL_move : ∀ (fs : List Lm) (s s' : Nat), (ndsL fs s).map jOf = (ndsL fs s').map jOf
  | [], _, _ => by rw [ndsL, ndsL]
  | f :: fs, s, s' => by rw [ndsL, ndsL, List.map_append, List.map_append, jF_move f s s', jL_move fs (s + f.size) (s' + f.size)]
end
theorem jSum_move (fs : List Lm) (s s' : Nat) : jSum (ndsL fs s) = jSum (ndsL fs s') := by unfold jSum; rw [jL_move fs s s']
section
variable {l' m' : List Lm} {f0 h0 : Lm}
theorem lv1_ten (hl : ∀ f ∈ l' ++ [f0], LFine f) : LvEmb (ndsL (l' ++ [f0]) 0) (ndsL (l' ++ tenL f0 h0 :: m') 0) (lvsL (l' ++ [f0]) 0) (lvsL (l' ++ tenL f0 h0 :: m') 0) (fT (Lm.sizes l')) 0 := by
  (refine ⟨emb1_ten hl, fun j a ha => ?_, lvIn_plan _⟩); rw [lvsL_app, Nat.zero_add] at ha; rw [lvs_ten, show j + 0 = j from rfl]
  rcases Nat.lt_or_ge j (lvsL l' 0).length with hj | hj
  · rw [List.getElem?_append_left hj] at ha ⊢
    have := lvsL_in l' 0 a (List.mem_of_getElem? ha); unfold fT; (rw [if_pos (by omega)]); exact ha
  · rw [List.getElem?_append_right hj] at ha ⊢
    have hin := lvsL_in [f0] (Lm.sizes l') a (List.mem_of_getElem? ha); (have hlen : (lvsL [f0] (Lm.sizes l' + 1)).length = (lvsL [f0] (Lm.sizes l')).length := by rw [lvsL_move, List.length_map]); have hlt := (List.getElem?_eq_some_iff.1 ha).1; (rw [List.getElem?_append_left (by omega), lvsL_move, List.getElem?_map, ha]); unfold fT; (rw [if_neg (by omega)]); rfl
theorem lv2_ten (hm : ∀ f ∈ h0 :: m', LFine f) : LvEmb (ndsL (h0 :: m') 0) (ndsL (l' ++ tenL f0 h0 :: m') 0) (lvsL (h0 :: m') 0) (lvsL (l' ++ tenL f0 h0 :: m') 0) (fun j => Lm.sizes l' + f0.size + 1 + j) (lvsL (l' ++ [f0]) 0).length := by
  (refine ⟨emb2_ten hm, fun j a ha => ?_, lvIn_plan _⟩); (have hlen : (lvsL [f0] (Lm.sizes l' + 1)).length = (lvsL [f0] (Lm.sizes l')).length := by rw [lvsL_move, List.length_map]); have hlt := (List.getElem?_eq_some_iff.1 ha).1; have e := lvsL_move (h0 :: m') 0 (Lm.sizes l' + f0.size + 1); rw [Nat.zero_add] at e; (rw [lvs_ten, lvsL_app, Nat.zero_add, List.length_append, List.getElem?_append_right (by omega), List.getElem?_append_right (by omega), e, List.getElem?_map, show j + ((lvsL l' 0).length + (lvsL [f0] (Lm.sizes l')).length) - (lvsL l' 0).length - (lvsL [f0] (Lm.sizes l' + 1)).length = j by omega, ha])
  simp; omega
theorem len_ten : (lvsL (l' ++ tenL f0 h0 :: m') 0).length = (lvsL (l' ++ [f0]) 0).length + (lvsL (h0 :: m') 0).length := by
  (have hlen : (lvsL [f0] (Lm.sizes l' + 1)).length = (lvsL [f0] (Lm.sizes l')).length := by rw [lvsL_move, List.length_map]); have e := lvsL_move (h0 :: m') 0 (Lm.sizes l' + f0.size + 1); rw [Nat.zero_add] at e; rw [lvs_ten, lvsL_app, Nat.zero_add, List.length_append, List.length_append, List.length_append, e, List.length_map]; omega
theorem two_ten (hl : ∀ f ∈ l' ++ [f0], LFine f) (hm : ∀ f ∈ h0 :: m', LFine f) {mu1 mu2 : Nat → Option Nat} (M1 : MuOk (lvsL (l' ++ [f0]) 0).length mu1) (M2 : MuOk (lvsL (h0 :: m') 0).length mu2) : Two2 (ndsL (l' ++ [f0]) 0) (ndsL (h0 :: m') 0) (ndsL (l' ++ tenL f0 h0 :: m') 0) (fT (Lm.sizes l')) (fun j => Lm.sizes l' + f0.size + 1 + j) (lkE (lvsL (l' ++ [f0]) 0) mu1) (lkE (lvsL (h0 :: m') 0) mu2) (lkE (lvsL (l' ++ tenL f0 h0 :: m') 0) (muTwo mu1 mu2 (lvsL (l' ++ [f0]) 0).length)) (some (Lm.sizes l')) (Lm.sizes l') 0 := by
  (have k1 : (ndsL (l' ++ [f0]) 0).length = Lm.sizes l' + f0.size := by rw [ndsL_len, Lm.sizes_app]; simp [Lm.sizes]); have k2 : (ndsL (h0 :: m') 0).length = Lm.sizes (h0 :: m') := ndsL_len _ _; (have k3 : (ndsL (l' ++ tenL f0 h0 :: m') 0).length = Lm.sizes l' + f0.size + 1 + Lm.sizes (h0 :: m') := by rw [ndsL_len, Lm.sizes_app]; simp [Lm.sizes, tenL, Lm.size]; omega); (have p0 : 0 < f0.size := by cases f0; rw [Lm.size]; omega); (have p1 : 0 < Lm.sizes (h0 :: m') := by cases h0; rw [Lm.sizes, Lm.size]; omega); obtain ⟨E1, E2, E3⟩ := lkE_two (lv1_ten (h0 := h0) (m' := m') hl) (lv2_ten (l' := l') (f0 := f0) hm) rfl M1 M2; (refine ⟨emb1_ten hl, emb2_ten hm, fun i hi => ?_, fun p q hp hq => ?_, fun p i hp ht => ?_, fun q i hq ht => ?_, fun i ht => ?_, by omega, by omega, E1, E2, E3, kidsIn_plan hl, kidsIn_plan hm⟩)
  · rw [k3] at hi
    rcases Nat.lt_trichotomy i (Lm.sizes l') with h | h | h
    · exact Or.inl ⟨i, by omega, by unfold fT; rw [if_pos h]⟩
    · exact Or.inr (Or.inr (by rw [h]))
    · rcases Nat.lt_or_ge i (Lm.sizes l' + f0.size + 1) with h2 | h2
      · exact Or.inl ⟨i - 1, by omega, by unfold fT; rw [if_neg (by omega)]; omega⟩
      · exact Or.inr (Or.inl ⟨i - (Lm.sizes l' + f0.size + 1), by omega, by omega⟩)
  · rw [k1] at hp
    unfold fT
    split <;> omega
  · cases ht
    unfold fT
    split <;> omega
  · cases ht
    omega
  · cases ht
    (refine ⟨_, by rw [nds_ten, List.getElem?_append_right (by rw [ndsL_len]; exact Nat.le_refl _), ndsL_len, Nat.sub_self]; rfl, rfl, ?_, ?_⟩)
    · unfold fT
      (rw [if_neg (by omega)])
    · show Lm.sizes l' + 1 + f0.size = Lm.sizes l' + f0.size + 1 + 0
      omega
theorem jSum_ten : jSum (ndsL (l' ++ tenL f0 h0 :: m') 0) = jSum (ndsL (l' ++ [f0]) 0) + jSum (ndsL (h0 :: m') 0) + 2 := by
  (have e : ∀ (x : Nd) (l : List Nd), jSum (x :: l) = jOf x + jSum l := fun x l => by simp [jSum]); rw [nds_ten, jSum_app, e, jSum_app, ndsL_app, jSum_app, Nat.zero_add, jSum_move [f0] (Lm.sizes l' + 1) (Lm.sizes l'), jSum_move (h0 :: m') (Lm.sizes l' + f0.size + 1) 0]; (have : jOf ⟨2, ⟨#[]⟩, false, Lm.sizes l' + 1, Lm.sizes l' + 1 + f0.size⟩ = 2 := by unfold jOf; rw [if_neg (by simp), if_pos rfl]); omega
/-- What Correct says of two nets with a tensor between them. -/
theorem ten_all {a b : List (Int × Int)} {mu1 mu2 : Nat → Option Nat} {c1 c2 : Nat} (h1 : netC (l' ++ [f0]) a = .ok mu1 c1) (h2 : netC (h0 :: m') b = .ok mu2 c2) (hlen : (l' ++ [f0]).length + (h0 :: m').length ≤ 20) (hsz : Lm.sizes (l' ++ [f0]) + Lm.sizes (h0 :: m') ≤ 199) : ∃ mu c3, netC (l' ++ tenL f0 h0 :: m') (a ++ b.map fun p => (((lvsL (l' ++ [f0]) 0).length : Int) + p.1, ((lvsL (l' ++ [f0]) 0).length : Int) + p.2)) = .ok mu c3 ∧ (CorrN (l' ++ tenL f0 h0 :: m') mu (a ++ b.map fun p => (((lvsL (l' ++ [f0]) 0).length : Int) + p.1, ((lvsL (l' ++ [f0]) 0).length : Int) + p.2)).length ↔ CorrN (l' ++ [f0]) mu1 a.length ∧ CorrN (h0 :: m') mu2 b.length) := by
  obtain ⟨-, -, hf1, -, hk1, -⟩ := netC_ok h1; obtain ⟨-, -, hf2, -, hk2, -⟩ := netC_ok h2; obtain ⟨M1, -⟩ := linkC_ok hk1; obtain ⟨M2, -⟩ := linkC_ok hk2; obtain ⟨c3, h3⟩ := linkC_two (lv1_ten (h0 := h0) (m' := m') hf1) (lv2_ten (l' := l') (f0 := f0) hf2) rfl len_ten hk1 hk2
  have hfine : ∀ f ∈ l' ++ tenL f0 h0 :: m', LFine f := fun f hf => by
    rcases List.mem_append.1 hf with h | h
    · exact hf1 f (by simp [h])
    · rcases List.mem_cons.1 h with rfl | h
      · exact LFine.two 2 f0 h0 (Or.inl rfl) (hf1 f0 (by simp)) (hf2 h0 (by simp))
      · exact hf2 f (by simp [h])
  have hs : Lm.sizes (l' ++ tenL f0 h0 :: m') = Lm.sizes (l' ++ [f0]) + Lm.sizes (h0 :: m') + 1 := by
    rw [Lm.sizes_app, Lm.sizes_app]; simp [Lm.sizes, tenL, Lm.size]; omega
  (have hcode : lcodeC (l' ++ tenL f0 h0 :: m') = .ok (Lm.sizes (l' ++ tenL f0 h0 :: m')) := lcodeC_of (by simp; omega) (by simp at hlen ⊢; omega) hfine (by omega)); (refine ⟨muTwo mu1 mu2 (lvsL (l' ++ [f0]) 0).length, c3, by unfold netC; rw [hcode]; exact h3, ?_⟩); have T := two_ten hf1 hf2 M1 M2; have k1 : (ndsL (l' ++ [f0]) 0).length = Lm.sizes (l' ++ [f0]) := ndsL_len _ _; have k2 : (ndsL (h0 :: m') 0).length = Lm.sizes (h0 :: m') := ndsL_len _ _; have k3 : (ndsL (l' ++ tenL f0 h0 :: m') 0).length = Lm.sizes (l' ++ tenL f0 h0 :: m') := ndsL_len _ _; unfold CorrN; rw [two_whole T rfl, jSum_ten, List.length_append, List.length_map]
  constructor
  · rintro ⟨e, w1, w2⟩
    have q1 := net_low h1 w1; have q2 := net_low h2 w2; (exact ⟨⟨by omega, w1⟩, by omega, w2⟩)
  · rintro ⟨⟨e1, w1⟩, e2, w2⟩
    (exact ⟨by omega, w1, w2⟩)
end
/-- .. and of two nets beside each other. -/
theorem side_all {l m : List Lm} {a b : List (Int × Int)} {mu1 mu2 : Nat → Option Nat} {c1 c2 : Nat} (h1 : netC l a = .ok mu1 c1) (h2 : netC m b = .ok mu2 c2) (hlen : l.length + m.length ≤ 20) (hsz : Lm.sizes l + Lm.sizes m ≤ 199) : ∃ mu c3, netC (l ++ m) (a ++ b.map fun p => (((lvsL l 0).length : Int) + p.1, ((lvsL l 0).length : Int) + p.2)) = .ok mu c3 ∧ ¬ CorrN (l ++ m) mu (a ++ b.map fun p => (((lvsL l 0).length : Int) + p.1, ((lvsL l 0).length : Int) + p.2)).length := by
  obtain ⟨g1, -, hf1, -, hk1, p1⟩ := netC_ok h1; obtain ⟨-, -, hf2, -, hk2, p2⟩ := netC_ok h2; obtain ⟨M1, -⟩ := linkC_ok hk1; obtain ⟨M2, -⟩ := linkC_ok hk2; have e := lvsL_move m 0 (Lm.sizes l); rw [Nat.zero_add] at e
  have L1 : LvEmb (ndsL l 0) (ndsL (l ++ m) 0) (lvsL l 0) (lvsL (l ++ m) 0) (fun i => i) 0 := ⟨emb1_side, fun j x hx => by
    rw [lvsL_app, show j + 0 = j from rfl, List.getElem?_append_left (List.getElem?_eq_some_iff.1 hx).1]
    exact hx, lvIn_plan _⟩
  have L2 : LvEmb (ndsL m 0) (ndsL (l ++ m) 0) (lvsL m 0) (lvsL (l ++ m) 0) (fun j => Lm.sizes l + j) (lvsL l 0).length := ⟨emb2_side hf2, fun j x hx => by
    (rw [lvsL_app, Nat.zero_add, List.getElem?_append_right (by omega), Nat.add_sub_cancel, e, List.getElem?_map, hx])
    simp; omega, lvIn_plan _⟩
  (have hvt : (lvsL (l ++ m) 0).length = (lvsL l 0).length + (lvsL m 0).length := by rw [lvsL_app, Nat.zero_add, List.length_append, e, List.length_map]); obtain ⟨c3, h3⟩ := linkC_two L1 L2 rfl hvt hk1 hk2; obtain ⟨E1, E2, E3⟩ := lkE_two L1 L2 rfl M1 M2; have k1 : (ndsL l 0).length = Lm.sizes l := ndsL_len _ _; have k2 : (ndsL m 0).length = Lm.sizes m := ndsL_len _ _; (have k3 : (ndsL (l ++ m) 0).length = Lm.sizes l + Lm.sizes m := by rw [ndsL_len, Lm.sizes_app])
  have hcode : lcodeC (l ++ m) = .ok (Lm.sizes (l ++ m)) := lcodeC_of (by simp; omega) (by simp; omega) (fun f hf => by
    rcases List.mem_append.1 hf with h | h
    · exact hf1 f h
    · exact hf2 f h) (by rw [Lm.sizes_app]; omega)
  (refine ⟨muTwo mu1 mu2 (lvsL l 0).length, c3, by unfold netC; rw [hcode]; exact h3, fun hC => ?_⟩)
  have T : Two2 (ndsL l 0) (ndsL m 0) (ndsL (l ++ m) 0) (fun i => i) (fun j => Lm.sizes l + j) (lkE (lvsL l 0) mu1) (lkE (lvsL m 0) mu2) (lkE (lvsL (l ++ m) 0) (muTwo mu1 mu2 (lvsL l 0).length)) none 0 0 := by
    (refine ⟨emb1_side, emb2_side hf2, fun i hi => ?_, fun p q hp hq => by omega, fun p i hp ht => (by cases ht), fun q i hq ht => (by cases ht), fun i ht => (by cases ht), by omega, by omega, E1, E2, E3, kidsIn_plan hf1, kidsIn_plan hf2⟩); rw [k3] at hi
    rcases Nat.lt_or_ge i (Lm.sizes l) with h | h
    · exact Or.inl ⟨i, by omega, rfl⟩
    · exact Or.inr (Or.inl ⟨i - Lm.sizes l, by omega, by omega⟩)
  exact two_apart T rfl hC.2
end Go.Proofs.Ytealalhgkdlmkai
