/- Texts of one proof, one behind the other: ML2. -/
import Derived.Test.YtmahgfgndfcmpahB17
/- What is true at the worlds of a logic's model is content; what is left over decides, plain. -/
namespace Go.Proofs.Ytmahgfgndfcmpah

section
variable {ps : List PartM} {fs : List Fm} {N : Nat} {R : Nat → Nat → Bool} {p : Nat → List UInt8 → Bool}
/-- The parts that are true at a world. -/
def typ (ps : List PartM) (fs : List Fm) (N : Nat) (R : Nat → Nat → Bool) (p : Nat → List UInt8 → Bool) (u : Nat) : Nat := bm ps.length fun n => mtv (seeR N R) p (fs.getD n zeroF) u
theorem typ_bit {u n : Nat} (hn : n < ps.length) : (typ ps fs N R p u).testBit n = mtv (seeR N R) p (fs.getD n zeroF) u := by
  unfold typ; rw [bm_bit]; simp [hn]
theorem typ_whole (ht : TabOk ps fs) (hf : ∀ g ∈ fs, Fine g) (u : Nat) : wholeB ps (typ ps fs N R p u) = true := by
  (refine whole_iff.2 fun n hn => ?_); rw [typ_bit hn]
  rcases part_view ht hf hn with ⟨a, e1, e2, e3⟩ | ⟨e1, e2⟩ | ⟨e1, e2⟩ | ⟨e1, e2, e3⟩ | ⟨e1, e2, e3, e4⟩
  · simp [trN, e1, typ_bit hn]
  · rw [e2, mtv, mtvs]
    simp [mval, trN, e1]
  · rw [e2, mtv, mtvs]
    simp [mval, trN, e1]
  · have hA : (typ ps fs N R p u).testBit (pa ps n) = mtv (seeR N R) p (fs.getD (pa ps n) zeroF) u := typ_bit (by omega)
    rcases e1 with e1 | e1 | e1
    · rw [e2, e1, mtv_not]
      simp [trN, e1, hA]
    · simp [trN, e1, typ_bit hn]
    · simp [trN, e1, typ_bit hn]
  · have hA : (typ ps fs N R p u).testBit (pa ps n) = mtv (seeR N R) p (fs.getD (pa ps n) zeroF) u := typ_bit (by omega)
    (have hB : (typ ps fs N R p u).testBit (pb ps n) = mtv (seeR N R) p (fs.getD (pb ps n) zeroF) u := typ_bit (by omega))
    rcases e1 with e1 | e1 | e1
    · rw [e2, e1, mtv_and]
      simp [trN, e1, hA, hB]
    · rw [e2, e1, mtv_or]
      simp [trN, e1, hA, hB]
    · rw [e2, e1, mtv_then]
      simp [trN, e1, hA, hB]
/-- What a world shows and wants, by its neighbours. -/
theorem sw_typ (ht : TabOk ps fs) (hf : ∀ g ∈ fs, Fine g) {n : Nat} (hn : n < ps.length) (v : Nat) : swB ps (typ ps fs N R p v) n = (isMd ps n && (mtv (seeR N R) p (fs.getD (pa ps n) zeroF) v == decide (pk ps n = 9))) := by
  unfold swB
  cases hm : isMd ps n with
  | false => rfl
  | true =>
    have : pa ps n < ps.length := by
      rcases part_view ht hf hn with ⟨a, e1, e2, e3⟩ | ⟨e1, e2⟩ | ⟨e1, e2⟩ | ⟨e1, e2, e3⟩ | ⟨e1, e2, e3, e4⟩
      · simp [isMd, e1] at hm
      · simp [isMd, e1] at hm
      · simp [isMd, e1] at hm
      · omega
      · omega
    rw [typ_bit this]
theorem wn_typ (ht : TabOk ps fs) (hf : ∀ g ∈ fs, Fine g) {n : Nat} (hn : n < ps.length) (u : Nat) : wnB ps (typ ps fs N R p u) n = true ↔ ∃ v, v < N ∧ R u v = true ∧ swB ps (typ ps fs N R p v) n = true := by
  (have hsw := fun v => sw_typ (N := N) (R := R) (p := p) ht hf hn v); simp only [hsw]; unfold wnB; rw [typ_bit hn]
  cases hm : isMd ps n with
  | false => simp
  | true =>
    rcases part_view ht hf hn with ⟨a, e1, e2, e3⟩ | ⟨e1, e2⟩ | ⟨e1, e2⟩ | ⟨e1, e2, e3⟩ | ⟨e1, e2, e3, e4⟩
    · simp [isMd, e1] at hm
    · simp [isMd, e1] at hm
    · simp [isMd, e1] at hm
    · rcases e1 with e1 | e1 | e1
      · simp [isMd, e1] at hm
      · rw [e2, e1, mtv_box]
        (have : decide ((8 : Int) = 9) = false := by decide); simp only [this, Bool.true_and, beq_false, Bool.not_eq_true', List.all_eq_false, mem_seeR]
        constructor
        · rintro ⟨v, ⟨h1, h2⟩, h3⟩
          (exact ⟨v, h1, h2, by simpa using h3⟩)
        · rintro ⟨v, h1, h2, h3⟩
          (exact ⟨v, ⟨h1, h2⟩, by simpa using h3⟩)
      · rw [e2, e1, mtv_dia]
        simp only [decide_true, Bool.true_and, beq_true, List.any_eq_true, mem_seeR]
        constructor
        · rintro ⟨v, ⟨h1, h2⟩, h3⟩
          exact ⟨v, h1, h2, h3⟩
        · rintro ⟨v, h1, h2, h3⟩
          exact ⟨v, ⟨h1, h2⟩, h3⟩
    · rcases e1 with e1 | e1 | e1 <;> simp [isMd, e1] at hm
theorem next_typ (ht : TabOk ps fs) (hf : ∀ g ∈ fs, Fine g) {u v : Nat} (hv : v < N) (h : R u v = true) : nextB ps (typ ps fs N R p u) (typ ps fs N R p v) = true :=
  sub_iff.2 fun _ hn hs => (wn_typ ht hf hn u).2 ⟨v, hv, h, hs⟩
theorem bynd_typ (ht : TabOk ps fs) (hf : ∀ g ∈ fs, Fine g) (h1 : sh1 N R = true) {u v : Nat} (hu : u < N) (hv : v < N) (h : R u v = true) : byndB ps (typ ps fs N R p u) (typ ps fs N R p v) = true := by
  unfold byndB; rw [Bool.and_eq_true]; (refine ⟨next_typ ht hf hv h, sub_iff.2 fun n hn hw => ?_⟩); obtain ⟨x, hx, h2, h3⟩ := (wn_typ ht hf hn v).1 hw; exact (wn_typ ht hf hn u).2 ⟨x, hx, sh1_iff.1 h1 u v x hu hv hx h h2, h3⟩
/-- Of the worlds that are seen and are so, a last one. -/
theorem last_of (h5 : sh5 N R = true) (P : Nat → Bool) {u : Nat} (hu : u < N) : ∀ (m v : Nat), (seeR N R v).length < m → v < N → R u v = true → P v = true → ∃ z, z < N ∧ R u z = true ∧ P z = true ∧ ∀ y, y < N → R z y = true → P y = false := by
  obtain ⟨h1, hi⟩ := sh5_iff.1 h5; have ht := sh1_iff.1 h1; intro m
  induction m with
  | zero => intro v h; exact absurd h (Nat.not_lt_zero _)
  | succ m ih =>
    intro v hm hv hr hp; by_cases hx : ∃ x, x < N ∧ R v x = true ∧ P x = true
    · obtain ⟨x, hx, h3, h4⟩ := hx
      refine ih x ?_ hx (ht u v x hu hv hx hr h3) h4
      have hs : (seeR N R x).length < (seeR N R v).length := by
        have e : seeR N R x = (seeR N R v).filter (R x) := by
          rw [seeR, seeR, List.filter_filter]; (refine List.filter_congr fun y hy => ?_); rw [List.mem_range] at hy
          cases hxy : R x y with
          | false => rfl
          | true => rw [ht v x y hv hx hy h3 hxy]; rfl
        rw [e]
        rcases Nat.lt_or_ge ((seeR N R v).filter (R x)).length (seeR N R v).length with h4 | h4
        · exact h4
        · have h5 := List.length_filter_le (R x) (seeR N R v)
          (have h6 : (seeR N R v).filter (R x) = seeR N R v := List.filter_sublist.eq_of_length (by omega)); (have h7 : x ∈ (seeR N R v).filter (R x) := by rw [h6]; exact mem_seeR.2 ⟨hx, h3⟩); have := (List.mem_filter.1 h7).2; rw [hi x hx] at this
          cases this
      omega
    · refine ⟨v, hv, hr, hp, fun y hy h3 => ?_⟩
      cases hpy : P y with
      | false => rfl
      | true => exact absurd ⟨y, hy, h3, hpy⟩ hx
/-- The worlds of a model. -/
def typs (ps : List PartM) (fs : List Fm) (N : Nat) (R : Nat → Nat → Bool) (p : Nat → List UInt8 → Bool) : List Nat := (List.range N).map (typ ps fs N R p)
theorem typ_sees (ht : TabOk ps fs) (hf : ∀ g ∈ fs, Fine g) {k : Nat} (hk : 1 ≤ k ∧ k ≤ 7) (ho : ofB k N R = true) {u v : Nat} (hu : u < N) (hv : v < N) (h : R u v = true) : seesB ps k (typ ps fs N R p u) (typ ps fs N R p v) = true := by
  (have hc : k = 1 ∨ k = 2 ∨ k = 3 ∨ k = 4 ∨ k = 5 ∨ k = 6 ∨ k = 7 := by omega)
  rcases hc with rfl | rfl | rfl | rfl | rfl | rfl | rfl
  · exact next_typ ht hf hv h
  · exact next_typ ht hf hv h
  · exact next_typ ht hf hv h
  · exact bynd_typ ht hf ho hu hv h
  · have ho : (sh0 N R && sh1 N R) = true := ho
    rw [Bool.and_eq_true] at ho; exact bynd_typ ht hf ho.2 hu hv h
  · have ho : ((sh0 N R && sh1 N R) && sh2 N R) = true := ho
    rw [Bool.and_eq_true, Bool.and_eq_true] at ho; show (byndB ps _ _ && byndB ps _ _) = true; rw [Bool.and_eq_true]; exact ⟨bynd_typ ht hf ho.1.2 hu hv h, bynd_typ ht hf ho.1.2 hv hu (sh2_iff.1 ho.2 u v hu hv h)⟩
  · have ho : (sh0 N R && sh2 N R) = true := ho
    rw [Bool.and_eq_true] at ho; show (nextB ps _ _ && nextB ps _ _) = true; rw [Bool.and_eq_true]; exact ⟨next_typ ht hf hv h, next_typ ht hf hu (sh2_iff.1 ho.2 u v hu hv h)⟩
theorem its_sh0 {k : Nat} (ho : ofB k N R = true) (hi : itsB k = true) : sh0 N R = true := by
  (have hc : k = 3 ∨ k = 5 ∨ k = 6 ∨ k = 7 := by simpa [itsB, or_assoc] using hi)
  rcases hc with rfl | rfl | rfl | rfl
  · exact ho
  · have ho : (sh0 N R && sh1 N R) = true := ho
    rw [Bool.and_eq_true] at ho; exact ho.1
  · have ho : ((sh0 N R && sh1 N R) && sh2 N R) = true := ho
    rw [Bool.and_eq_true, Bool.and_eq_true] at ho; exact ho.1.1
  · have ho : (sh0 N R && sh2 N R) = true := ho
    rw [Bool.and_eq_true] at ho; exact ho.1
theorem stable_typs (ht : TabOk ps fs) (hf : ∀ g ∈ fs, Fine g) {k : Nat} (hk : 1 ≤ k ∧ k ≤ 8) (ho : ofB k N R = true) : Stable ps k (typs ps fs N R p) := by
  intro x hx; obtain ⟨u, hu, rfl⟩ := List.mem_map.1 hx; rw [List.mem_range] at hu; refine ⟨bm_lt _ _, typ_whole ht hf u, ?_, ?_⟩
  · unfold allowB
    cases hi : itsB k with
    | false => rfl
    | true =>
      have h0 := its_sh0 ho hi
      have hk7 : k ≤ 7 := by
        rcases Nat.lt_or_ge k 8 with h | h
        · omega
        · have : k = 8 := by omega
          subst this
          cases hi
      exact typ_sees ht hf ⟨hk.1, hk7⟩ ho hu hu (sh0_iff.1 h0 u hu)
  · rw [cont_iff]
    (refine ⟨fun n hn hw => ?_, fun h2 => ?_⟩)
    · by_cases h8 : k = 8
      · subst h8
        have h5 : sh5 N R = true := ho; obtain ⟨v, hv, h1, h3⟩ := (wn_typ ht hf hn u).1 hw; (obtain ⟨z, hz, q1, q2, q3⟩ := last_of h5 (fun v => swB ps (typ ps fs N R p v) n) hu _ v (Nat.lt_succ_self _) hv h1 h3); refine ⟨_, List.mem_map.2 ⟨z, List.mem_range.2 hz, rfl⟩, ?_, q2⟩; show onwB ps _ _ = true; unfold onwB; rw [bynd_typ ht hf (sh5_iff.1 h5).1 hu hz q1, Bool.true_and]; simp only [Bool.not_eq_true', decide_eq_false_iff_not]; intro e; have := bm_same.1 e n hn; rw [hw] at this; obtain ⟨y, hy, d1, d2⟩ := (wn_typ ht hf hn z).1 this.symm; have := q3 y hy d1; rw [d2] at this
        cases this
      · obtain ⟨v, hv, h1, h3⟩ := (wn_typ ht hf hn u).1 hw
        (exact ⟨_, List.mem_map.2 ⟨v, List.mem_range.2 hv, rfl⟩, typ_sees ht hf ⟨hk.1, by omega⟩ ho hu hv h1, h3⟩)
    · subst h2
      obtain ⟨v, hv, h1⟩ := sh4_iff.1 ho u hu; (exact ⟨_, List.mem_map.2 ⟨v, List.mem_range.2 hv, rfl⟩, typ_sees ht hf (by omega) ho hu hv h1⟩)
/-- What is left over of all worlds: all content, and none that could be. -/
structure Left (ps : List PartM) (k : Nat) (l : List Nat) : Prop where
  ok : Stable ps k l
  most : ∀ S, Stable ps k S → ∀ x ∈ S, x ∈ l
theorem left_valid (ht : TabOk ps fs) (hf : ∀ g ∈ fs, Fine g) {k : Nat} (hk : 1 ≤ k ∧ k ≤ 8) {l : List Nat} (hl : Left ps k l) {n : Nat} {f : Fm} (hn : fs[n]? = some f) : ValidM k f ↔ ∀ x ∈ l, x.testBit n = true := by
  (have hlt : n < ps.length := by rw [ht.len]; exact (List.getElem?_eq_some_iff.1 hn).1); (have e : fs.getD n zeroF = f := by rw [List.getD_eq_getElem?_getD, hn]; rfl)
  constructor
  · intro h x hx
    obtain ⟨i, hi, rfl⟩ := wAt_of hx; have := h l.length (relW ps k l) (namW ps l) (of_stable hk hl.ok) i hi; rw [← e, truth_at ht hf hl.ok (n + 1) n (Nat.lt_succ_self _) hlt i hi] at this; exact this
  · intro h N R p ho u hu
    have := h _ (hl.most _ (stable_typs (p := p) ht hf hk ho) (typ ps fs N R p u) (List.mem_map.2 ⟨u, List.mem_range.2 hu, rfl⟩)); rw [typ_bit hlt, e] at this; exact this
/-- One more pass over what is left. -/
theorem left_pass {k : Nat} {l : List Nat} (h : ∀ S, Stable ps k S → ∀ x ∈ S, x ∈ l) : ∀ S, Stable ps k S → ∀ x ∈ S, x ∈ l.filter (contB ps k l) := fun S hS x hx =>
  List.mem_filter.2 ⟨h S hS x hx, cont_more (hS x hx).2.2.2 (h S hS)⟩
/-- A pass that lets none go is the last. -/
theorem left_end {k : Nat} {l : List Nat} (h0 : ∀ x ∈ l, x < 2 ^ ps.length ∧ wholeB ps x = true ∧ allowB ps k x = true) (h : ∀ S, Stable ps k S → ∀ x ∈ S, x ∈ l) (he : (l.filter (contB ps k l)).length = l.length) : Left ps k l := by
  have h6 : l.filter (contB ps k l) = l := List.filter_sublist.eq_of_length he; (refine ⟨fun x hx => ?_, h⟩); obtain ⟨a, b, c⟩ := h0 x hx; rw [← h6] at hx; exact ⟨a, b, c, (List.mem_filter.1 hx).2⟩
end
end Go.Proofs.Ytmahgfgndfcmpah
