/- Texts of one proof, one behind the other: NT1, NTD. -/
import Derived.Test.YtealalhgkdlmkaiB01
/- Linear formulas as data: sizes, what Check says of them. -/
namespace Go.Proofs.Ytealalhgkdlmkai

inductive Lm where
  | mk (kind : Int) (name : ByteArray) (neg : Bool) (kids : List Lm)
mutual
def Lm.size : Lm → Nat
  | .mk _ _ _ ks => Lm.sizes ks + 1
def Lm.sizes : List Lm → Nat
  | [] => 0
  | f :: fs => Lm.size f + Lm.sizes fs
end
theorem Lm.sizes_app (l m : List Lm) : Lm.sizes (l ++ m) = Lm.sizes l + Lm.sizes m := by
  induction l with
  | nil => simp [Lm.sizes]
  | cons f fs ih => rw [List.cons_append, Lm.sizes, Lm.sizes, ih]; omega
theorem lsizes_get {ks : List Lm} {i : Nat} {f : Lm} (h : ks[i]? = some f) : f.size ≤ Lm.sizes ks := by
  induction ks generalizing i with
  | nil => simp at h
  | cons g gs ih =>
    cases i with
    | zero => simp at h; subst h; simp [Lm.sizes]
    | succ i => have := ih (i := i) (by simpa using h); simp [Lm.sizes]; omega
def lkidsN (k : Int) : Int := if k = 2 ∨ k = 3 then 2 else 0
def lkindB (k : Int) : Bool := decide (1 ≤ k) && decide (k ≤ 3)
def lnameB (k : Int) (n : ByteArray) (b : Bool) : Bool := if k = 1 then !isNm n.data.toList else !n.data.toList.isEmpty || b
/-- What is wrong at a node, if something is. -/
def lnodeF (k : Int) (n : ByteArray) (b : Bool) (len : Nat) : Option Int :=
  if lkindB k = false then some 4 else if (len : Int) ≠ lkidsN k then some 9 else if lnameB k n b = true then some 8 else none
mutual
def lchk : Lm → Nat → Chk
  | .mk k n b ks, s => if s = 200 then .bad 2 0 else match lnodeF k n b ks.length with
    | some c => .bad c s
    | none => lchks ks (s + 1)
def lchks : List Lm → Nat → Chk
  | [], s => .ok s
  | f :: fs, s => match lchk f s with
    | .bad c a => .bad c a
    | .ok s' => lchks fs s'
end
mutual
theorem lchk_le : ∀ (f : Lm) (s s' : Nat), lchk f s = .ok s' → s ≤ 200 → s' ≤ 200 ∧ s' = s + f.size
  | .mk k n b ks, s, s', h, hs => by
    rw [lchk] at h
    split at h
    · cases h
    · rename_i h2
      split at h
      · cases h
      · have := lchks_le ks (s + 1) s' h (by omega)
        rw [Lm.size]; omega
theorem lchks_le : ∀ (fs : List Lm) (s s' : Nat), lchks fs s = .ok s' → s ≤ 200 → s' ≤ 200 ∧ s' = s + Lm.sizes fs
  | [], s, s', h, hs => by rw [lchks] at h; cases h; simp [Lm.sizes]; exact hs
  | f :: fs, s, s', h, hs => by
    rw [lchks] at h
    split at h
    · cases h
    · rename_i s1 h1
      have a := lchk_le f s s1 h1 hs; have b := lchks_le fs s1 s' h a.1; rw [Lm.sizes]; omega
end
/-- A linear formula that Check finds fine. -/
inductive LFine : Lm → Prop
  | atom (n : ByteArray) (b : Bool) (h : isNm n.data.toList = true) : LFine (.mk 1 n b [])
  | two (k : Int) (f g : Lm) (h : k = 2 ∨ k = 3) (hf : LFine f) (hg : LFine g) : LFine (.mk k ⟨#[]⟩ false [f, g])
theorem empty_bytes {n : ByteArray} (h : n.data.toList.isEmpty = true) : n = ⟨#[]⟩ := by
  obtain ⟨⟨l⟩⟩ := n; simp at h; rw [h]
theorem lnode_forms {k : Int} {n : ByteArray} {b : Bool} {ks : List Lm} (h : lnodeF k n b ks.length = none) : (k = 1 ∧ ks = [] ∧ isNm n.data.toList = true) ∨ ((k = 2 ∨ k = 3) ∧ n = ⟨#[]⟩ ∧ b = false ∧ ∃ f g, ks = [f, g]) := by
  unfold lnodeF at h
  split at h
  · cases h
  rename_i h1
  split at h
  · cases h
  rename_i h2
  split at h
  · cases h
  rename_i h3
  (have h1 : 1 ≤ k ∧ k ≤ 3 := by simpa [lkindB] using h1); (have h2 : (ks.length : Int) = lkidsN k := by simpa using h2); by_cases hk : k = 1
  · subst hk
    refine Or.inl ⟨rfl, ?_, ?_⟩
    · have : (ks.length : Int) = 0 := h2
      (exact List.length_eq_zero_iff.1 (by omega))
    · simpa [lnameB] using h3
  · have hk2 : k = 2 ∨ k = 3 := by omega
    rw [lkidsN, if_pos hk2] at h2
    have h3' : n.data.toList.isEmpty = true ∧ b = false := by
      unfold lnameB at h3; rw [if_neg hk] at h3
      rcases hx : n.data.toList.isEmpty with _ | _
      · rw [hx] at h3; simp at h3
      · rw [hx] at h3; simpa using h3
    refine Or.inr ⟨hk2, empty_bytes h3'.1, h3'.2, ?_⟩
    match ks, h2 with
    | [f, g], _ => exact ⟨f, g, rfl⟩
mutual
theorem lchk_fine : ∀ (f : Lm) (s s' : Nat), lchk f s = .ok s' → LFine f
  | .mk k n b ks, s, s', h => by
    rw [lchk] at h
    split at h
    · cases h
    · split at h
      · cases h
      · rename_i hnf
        have hr := lchks_fine ks (s + 1) s' h
        rcases lnode_forms hnf with ⟨rfl, rfl, h3⟩ | ⟨h1, rfl, rfl, f, g, rfl⟩
        · exact LFine.atom n b h3
        · exact LFine.two k f g h1 (hr f (by simp)) (hr g (by simp))
theorem lchks_fine : ∀ (fs : List Lm) (s s' : Nat), lchks fs s = .ok s' → ∀ f ∈ fs, LFine f
  | [], s, s', h => fun f hf => by cases hf
  | g :: fs, s, s', h => by
    rw [lchks] at h
    split at h
    · cases h
    · rename_i s1 h1
      have a := lchk_fine g s s1 h1; have b := lchks_fine fs s1 s' h; intro f hf
      rcases List.mem_cons.1 hf with rfl | hf
      · exact a
      · exact b f hf
end
theorem lnode_ok {k : Int} {n : ByteArray} {b : Bool} {len : Nat} (h1 : lkindB k = true) (h2 : (len : Int) = lkidsN k) (h3 : lnameB k n b = false) : lnodeF k n b len = none := by
  unfold lnodeF; (rw [if_neg (by rw [h1]; simp), if_neg (by simpa using h2), if_neg (by rw [h3]; simp)])
theorem LFine.node {k : Int} {n : ByteArray} {b : Bool} {ks : List Lm} (h : LFine (.mk k n b ks)) : lnodeF k n b ks.length = none := by
  cases h with
  | atom _ _ h => exact lnode_ok rfl rfl (by simp [lnameB, h])
  | two _ f g h _ _ => rcases h with rfl | rfl <;> exact lnode_ok rfl rfl rfl
theorem LFine.kids {k : Int} {n : ByteArray} {b : Bool} {ks : List Lm} (h : LFine (.mk k n b ks)) : ∀ f ∈ ks, LFine f := by
  cases h with
  | atom _ _ h => intro f hf; cases hf
  | two _ f g h h1 h2 =>
    intro x hx; simp only [List.mem_cons, List.not_mem_nil, or_false] at hx
    rcases hx with rfl | rfl
    · exact h1
    · exact h2
mutual
theorem lchk_of : ∀ (f : Lm) (s : Nat), LFine f → s + f.size ≤ 200 → lchk f s = .ok (s + f.size)
  | .mk k n b ks, s, h, hs => by
    rw [Lm.size] at hs ⊢; (rw [lchk, if_neg (by omega), h.node]); simp only; (rw [lchks_of ks (s + 1) h.kids (by omega)])
    congr 1
    omega
theorem lchks_of : ∀ (fs : List Lm) (s : Nat), (∀ f ∈ fs, LFine f) → s + Lm.sizes fs ≤ 200 → lchks fs s = .ok (s + Lm.sizes fs)
  | [], s, _, _ => by rw [lchks, Lm.sizes]; rfl
  | f :: fs, s, h, hs => by
    rw [Lm.sizes] at hs ⊢; (rw [lchks, lchk_of f s (h f (by simp)) (by omega)]); simp only; (rw [lchks_of fs _ (fun x hx => h x (by simp [hx])) (by omega)])
    congr 1
    omega
end
/-- What Check says of a list. -/
def lcodeC (l : List Lm) : Chk := if l.length < 1 ∨ 20 < l.length then .bad 2 0 else lchks l 0
theorem lcodeC_ok {l : List Lm} {s : Nat} (h : lcodeC l = .ok s) : 1 ≤ l.length ∧ l.length ≤ 20 ∧ (∀ f ∈ l, LFine f) ∧ Lm.sizes l ≤ 200 ∧ s = Lm.sizes l := by
  unfold lcodeC at h
  split at h
  · cases h
  · rename_i h1
    (have a := lchks_le l 0 s h (by omega)); (exact ⟨by omega, by omega, lchks_fine l 0 s h, by omega, by omega⟩)
theorem lcodeC_of {l : List Lm} (h1 : 1 ≤ l.length) (h2 : l.length ≤ 20) (h3 : ∀ f ∈ l, LFine f) (h4 : Lm.sizes l ≤ 200) : lcodeC l = .ok (Lm.sizes l) := by
  unfold lcodeC; (rw [if_neg (by omega), lchks_of l 0 h3 (by omega)])
  congr 1
  omega
end Go.Proofs.Ytealalhgkdlmkai
/- Plain: classes of numbers as a forest tells them. -/
namespace Go.Proofs.Ytealalhgkdlmkai

/-- A forest over n numbers: each leads to the number that its class is told by; r falls on the way. -/
structure UF (n : Nat) (A : List Nat) (c r : Nat → Nat) : Prop where
  len : A.length = n
  lt : ∀ (i x : Nat), A[i]? = some x → x < n
  cls : ∀ (i x : Nat), A[i]? = some x → c x = c i
  root : ∀ i : Nat, A[i]? = some i → c i = i
  rank : ∀ (i x : Nat), A[i]? = some x → x ≠ i → r x < r i
theorem UF.get {n : Nat} {A : List Nat} {c r : Nat → Nat} (h : UF n A c r) {i : Nat} (hi : i < n) : ∃ x, A[i]? = some x := ⟨_, List.getElem?_eq_getElem (by rw [h.len]; exact hi)⟩
theorem UF.top {n : Nat} {A : List Nat} {c r : Nat → Nat} (h : UF n A c r) : ∀ (k i : Nat), r i < k → i < n → c i < n ∧ A[c i]? = some (c i)
  | 0, _, hk, _ => absurd hk (Nat.not_lt_zero _)
  | k + 1, i, hk, hi => by
    obtain ⟨x, hx⟩ := h.get hi; by_cases e : x = i
    · subst e
      rw [h.root x hx]; exact ⟨hi, hx⟩
    · have h1 := h.rank i x hx e
      (have h2 := UF.top h k x (by omega) (h.lt i x hx)); rw [h.cls i x hx] at h2; exact h2
theorem UF.c_lt {n : Nat} {A : List Nat} {c r : Nat → Nat} (h : UF n A c r) {i : Nat} (hi : i < n) : c i < n := (h.top _ i (Nat.lt_succ_self _) hi).1
theorem UF.c_top {n : Nat} {A : List Nat} {c r : Nat → Nat} (h : UF n A c r) {i : Nat} (hi : i < n) : A[c i]? = some (c i) := (h.top _ i (Nat.lt_succ_self _) hi).2
theorem UF.c_c {n : Nat} {A : List Nat} {c r : Nat → Nat} (h : UF n A c r) {i : Nat} (hi : i < n) : c (c i) = c i := h.root _ (h.c_top hi)
/-- The way is halved. -/
theorem UF.halve {n : Nat} {A : List Nat} {c r : Nat → Nat} (h : UF n A c r) {j x y : Nat} (hx : A[j]? = some x) (hne : x ≠ j) (hy : A[x]? = some y) : UF n (A.set j y) c r ∧ r y < r j ∧ c y = c j ∧ y < n := by
  have hjl : j < A.length := (List.getElem?_eq_some_iff.1 hx).1; have hr1 := h.rank j x hx hne
  have hr2 : r y ≤ r x := by
    by_cases e : y = x
    · subst e; exact Nat.le_refl _
    · exact Nat.le_of_lt (h.rank x y hy e)
  have hc : c y = c j := (h.cls x y hy).trans (h.cls j x hx); have hyn := h.lt x y hy; (have hyj : y ≠ j := fun e => by subst e; omega)
  have get : ∀ i z, (A.set j y)[i]? = some z → (i = j ∧ z = y) ∨ (i ≠ j ∧ A[i]? = some z) := fun i z hz => by
    by_cases e : i = j
    · subst e
      rw [List.getElem?_set_self hjl] at hz; exact Or.inl ⟨rfl, (Option.some.inj hz).symm⟩
    · rw [List.getElem?_set_ne (fun e2 => e e2.symm)] at hz
      exact Or.inr ⟨e, hz⟩
  (refine ⟨⟨by rw [List.length_set]; exact h.len, fun i z hz => ?_, fun i z hz => ?_, fun i hz => ?_, fun i z hz hne => ?_⟩, by omega, hc, hyn⟩)
  · rcases get i z hz with ⟨rfl, rfl⟩ | ⟨_, hz⟩
    · exact hyn
    · exact h.lt i z hz
  · rcases get i z hz with ⟨rfl, rfl⟩ | ⟨_, hz⟩
    · exact hc
    · exact h.cls i z hz
  · rcases get i i hz with ⟨rfl, e⟩ | ⟨_, hz⟩
    · exact absurd e.symm hyj
    · exact h.root i hz
  · rcases get i z hz with ⟨rfl, rfl⟩ | ⟨_, hz⟩
    · omega
    · exact h.rank i z hz hne
/-- Two classes become one. -/
def mergeC (c : Nat → Nat) (a b : Nat) : Nat → Nat := fun i => if c i = c a then c b else c i
theorem mergeC_same {c : Nat → Nat} {a b : Nat} (h : c a = c b) : mergeC c a b = c := by
  funext i
  unfold mergeC
  split
  · rename_i e; rw [e, h]
  · rfl
theorem UF.unite {n : Nat} {A : List Nat} {c r : Nat → Nat} (h : UF n A c r) {a b : Nat} (ha : a < n) (hb : b < n) (hab : c a ≠ c b) : ∃ r', UF n (A.set (c a) (c b)) (mergeC c a b) r' := by
  have hal := h.c_lt ha; have hbl := h.c_lt hb; (have hcl : c a < A.length := by rw [h.len]; exact hal)
  have get : ∀ i z, (A.set (c a) (c b))[i]? = some z → (i = c a ∧ z = c b) ∨ (i ≠ c a ∧ A[i]? = some z) := fun i z hz => by
    by_cases e : i = c a
    · subst e
      rw [List.getElem?_set_self hcl] at hz; exact Or.inl ⟨rfl, (Option.some.inj hz).symm⟩
    · rw [List.getElem?_set_ne (fun e2 => e e2.symm)] at hz
      exact Or.inr ⟨e, hz⟩
  (refine ⟨fun i => if c i = c a then r i + (r (c b) + 1) else r i, by rw [List.length_set]; exact h.len, fun i z hz => ?_, fun i z hz => ?_, fun i hz => ?_, fun i z hz hne => ?_⟩)
  · rcases get i z hz with ⟨rfl, rfl⟩ | ⟨_, hz⟩
    · exact hbl
    · exact h.lt i z hz
  · rcases get i z hz with ⟨rfl, rfl⟩ | ⟨_, hz⟩
    · simp only [mergeC, h.c_c ha, h.c_c hb, if_pos, ite_self]
    · simp only [mergeC, h.cls i z hz]
  · rcases get i i hz with ⟨e1, e2⟩ | ⟨hi, hz⟩
    · exact absurd (e1.symm.trans e2) hab
    · have := h.root i hz
      simp only [mergeC]; (rw [if_neg (by rw [this]; exact hi)]); exact this
  · rcases get i z hz with ⟨rfl, rfl⟩ | ⟨hi, hz⟩
    · simp only [h.c_c ha, h.c_c hb, if_pos]
      (rw [if_neg (fun e => hab e.symm)]); omega
    · have h1 := h.rank i z hz hne
      simp only [h.cls i z hz]
      split <;> omega
theorem UF.start (n : Nat) : UF n (List.range n) (fun i => i) (fun _ => 0) := by
  have get : ∀ i x : Nat, (List.range n)[i]? = some x → i < n ∧ x = i := fun i x h => by
    have hi := (List.getElem?_eq_some_iff.1 h).1; rw [List.length_range] at hi; rw [List.getElem?_range hi] at h; exact ⟨hi, (Option.some.inj h).symm⟩
  (refine ⟨List.length_range, fun i x h => ?_, fun i x h => ?_, fun i _ => rfl, fun i x h hne => ?_⟩)
  · obtain ⟨h1, rfl⟩ := get i x h; exact h1
  · obtain ⟨h1, rfl⟩ := get i x h; rfl
  · exact absurd (get i x h).2 hne
/-- How many classes there are. -/
def rootsN (n : Nat) (c : Nat → Nat) : Nat := ((List.range n).filter fun i => c i == i).length
theorem rootsN_start (n : Nat) : rootsN n (fun i => i) = n := by
  unfold rootsN; (rw [List.filter_eq_self.2 (fun a _ => by simp), List.length_range])
theorem filter_one_less {l : List Nat} (hnd : l.Nodup) {p q : Nat → Bool} {x : Nat} (hx : x ∈ l) (hp : p x = true) (hq : q x = false) (he : ∀ i ∈ l, i ≠ x → q i = p i) : (l.filter q).length + 1 = (l.filter p).length := by
  induction l with
  | nil => cases hx
  | cons a l ih =>
    rw [List.nodup_cons] at hnd
    rcases List.mem_cons.1 hx with rfl | hx
    · rw [List.filter_cons_of_neg (by rw [hq]; simp), List.filter_cons_of_pos hp, List.length_cons]
      congr 1
      congr 1
      (exact List.filter_congr fun i hi => he i (List.mem_cons_of_mem _ hi) (fun e => hnd.1 (e ▸ hi)))
    · have hax : a ≠ x := fun e => hnd.1 (e ▸ hx)
      have ha := he a (List.mem_cons_self ..) hax; (have := ih hnd.2 hx (fun i hi => he i (List.mem_cons_of_mem _ hi)))
      cases hpa : p a with
      | true => rw [List.filter_cons_of_pos hpa, List.filter_cons_of_pos (by rw [ha]; exact hpa)]; simp; omega
      | false => rw [List.filter_cons_of_neg (by rw [ha, hpa]; simp), List.filter_cons_of_neg (by rw [hpa]; simp)]; exact this
/-- What maps numbers to their classes. -/
structure Cls (n : Nat) (c : Nat → Nat) : Prop where
  lt : ∀ i, i < n → c i < n
  idem : ∀ i, i < n → c (c i) = c i
theorem UF.toCls {n : Nat} {A : List Nat} {c r : Nat → Nat} (h : UF n A c r) : Cls n c := ⟨fun _ hi => h.c_lt hi, fun _ hi => h.c_c hi⟩
theorem rootsN_merge {n : Nat} {c : Nat → Nat} (h : Cls n c) {a b : Nat} (ha : a < n) (hb : b < n) (hab : c a ≠ c b) : rootsN n (mergeC c a b) + 1 = rootsN n c := by
  unfold rootsN; (refine filter_one_less List.nodup_range (x := c a) (List.mem_range.2 (h.lt a ha)) (by simp [h.idem a ha]) ?_ fun i hi hne => ?_)
  · simp only [mergeC, h.idem a ha, if_pos, beq_eq_false_iff_ne, ne_eq]
    (exact fun e => hab e.symm)
  · have hi := List.mem_range.1 hi
    simp only [mergeC]; by_cases e : c i = c a
    · rw [if_pos e, e]
      have h1 : (c b == i) = false := by
        simp only [beq_eq_false_iff_ne, ne_eq]; intro e2; subst e2; rw [h.idem b hb] at e; exact hab e.symm
      (have h2 : (c a == i) = false := by simpa using fun e2 : c a = i => hne e2.symm); rw [h1, h2]
    · rw [if_neg e]
theorem rootsN_pos {n : Nat} {c : Nat → Nat} (h : Cls n c) (hn : 0 < n) : 0 < rootsN n c := by
  unfold rootsN; (refine List.length_pos_of_mem (a := c 0) (List.mem_filter.2 ⟨List.mem_range.2 (h.lt 0 hn), by simp [h.idem 0 hn]⟩))
/-- One class is left just if all are in one. -/
theorem rootsN_one {n : Nat} {c : Nat → Nat} (h : Cls n c) (hn : 0 < n) : rootsN n c = 1 ↔ ∀ i j, i < n → j < n → c i = c j := by
  constructor
  · intro h1 i j hi hj
    unfold rootsN at h1; obtain ⟨x, hx⟩ := List.length_eq_one_iff.1 h1
    have m : ∀ k, k < n → c k = x := fun k hk => by
      (have : c k ∈ (List.range n).filter fun i => c i == i := List.mem_filter.2 ⟨List.mem_range.2 (h.lt k hk), by simp [h.idem k hk]⟩); rw [hx] at this; simpa using this
    rw [m i hi, m j hj]
  · intro h1
    have hp := rootsN_pos h hn
    have hle : rootsN n c ≤ 1 := by
      unfold rootsN; (have hnd : ((List.range n).filter fun i => c i == i).Nodup := List.nodup_range.filter _)
      match hl : (List.range n).filter fun i => c i == i with
      | [] => simp
      | [x] => simp
      | x :: y :: t =>
        rw [hl] at hnd; (have hx : x ∈ (List.range n).filter fun i => c i == i := by rw [hl]; simp); (have hy : y ∈ (List.range n).filter fun i => c i == i := by rw [hl]; simp); obtain ⟨hx1, hx2⟩ := List.mem_filter.1 hx; obtain ⟨hy1, hy2⟩ := List.mem_filter.1 hy; (have ex : c x = x := by simpa using hx2); (have ey : c y = y := by simpa using hy2); have := h1 x y (List.mem_range.1 hx1) (List.mem_range.1 hy1); rw [ex, ey] at this; rw [this] at hnd; simp at hnd
    omega
end Go.Proofs.Ytealalhgkdlmkai
