/- Texts of one proof, one behind the other: ML1, ML2. -/
import Derived.Test.YtmahgfgndfcmpagB06
import Derived.Test.YtmahgfgndfcmpagB08
/- Sets of parts that can be true at one world of a logic's models, plain. -/
namespace Go.Proofs.Ytmahgfgndfcmpag

def noPart : PartM := ⟨0, ⟨#[]⟩, []⟩
def pk (ps : List PartM) (n : Nat) : Int := (ps.getD n noPart).kind
def pa (ps : List PartM) (n : Nat) : Nat := (ps.getD n noPart).kids.getD 0 0
def pb (ps : List PartM) (n : Nat) : Nat := (ps.getD n noPart).kids.getD 1 0
def pnm (ps : List PartM) (n : Nat) : List UInt8 := (ps.getD n noPart).name.data.toList
/-- What its kids make of a part. -/
def trN (ps : List PartM) (h n : Nat) : Bool :=
  if pk ps n = 2 then true else if pk ps n = 3 then false else if pk ps n = 4 then !h.testBit (pa ps n) else if pk ps n = 5 then h.testBit (pa ps n) && h.testBit (pb ps n) else if pk ps n = 6 then h.testBit (pa ps n) || h.testBit (pb ps n) else if pk ps n = 7 then !h.testBit (pa ps n) || h.testBit (pb ps n) else h.testBit n
def wholeB (ps : List PartM) (h : Nat) : Bool := (List.range ps.length).all fun n => h.testBit n == trN ps h n
def isMd (ps : List PartM) (n : Nat) : Bool := decide (pk ps n = 8) || decide (pk ps n = 9)
/-- Which boxes and diamonds want to see a world, and which are shown by one. -/
def wnB (ps : List PartM) (h n : Nat) : Bool := isMd ps n && (h.testBit n == decide (pk ps n = 9))
def swB (ps : List PartM) (h n : Nat) : Bool := isMd ps n && (h.testBit (pa ps n) == decide (pk ps n = 9))
def nextB (ps : List PartM) (u v : Nat) : Bool := subB ps.length (swB ps v) (wnB ps u)
def byndB (ps : List PartM) (u v : Nat) : Bool := nextB ps u v && subB ps.length (wnB ps v) (wnB ps u)
def onwB (ps : List PartM) (u v : Nat) : Bool := byndB ps u v && !decide (bm ps.length (wnB ps u) = bm ps.length (wnB ps v))
/-- Which worlds see each other, in the logic of this number. -/
def seesB (ps : List PartM) (k : Nat) (u v : Nat) : Bool :=
  if k = 8 then onwB ps u v else if k = 7 then nextB ps u v && nextB ps v u else if k = 6 then byndB ps u v && byndB ps v u else if k = 5 then byndB ps u v else if k = 4 then byndB ps u v else nextB ps u v
def itsB (k : Nat) : Bool := k == 3 || k == 5 || k == 6 || k == 7
def someB (k : Nat) : Bool := k == 2
def shownB (ps : List PartM) (k : Nat) (l : List Nat) (u n : Nat) : Bool := l.any fun v => seesB ps k u v && swB ps v n
def contB (ps : List PartM) (k : Nat) (l : List Nat) (u : Nat) : Bool := decide (bm ps.length (shownB ps k l u) = bm ps.length (wnB ps u)) && (l.any (seesB ps k u) || !someB k)
def allowB (ps : List PartM) (k u : Nat) : Bool := !itsB k || seesB ps k u u
/-- A list of worlds that are all content. -/
def Stable (ps : List PartM) (k : Nat) (l : List Nat) : Prop := ∀ x ∈ l, x < 2 ^ ps.length ∧ wholeB ps x = true ∧ allowB ps k x = true ∧ contB ps k l x = true
/-- A logic's models. -/
def ofB (k N : Nat) (R : Nat → Nat → Bool) : Bool :=
  if k = 1 then true else if k = 2 then sh4 N R else if k = 3 then sh0 N R else if k = 4 then sh1 N R else if k = 5 then sh0 N R && sh1 N R else if k = 6 then (sh0 N R && sh1 N R) && sh2 N R else if k = 7 then sh0 N R && sh2 N R else sh5 N R
/-- True at all worlds of all of a logic's models. -/
def ValidM (k : Nat) (f : Fm) : Prop := ∀ (N : Nat) (R : Nat → Nat → Bool) (p : Nat → List UInt8 → Bool), ofB k N R = true → ∀ u, u < N → mtv (seeR N R) p f u = true

section
variable {ps : List PartM} {fs : List Fm}
theorem getD_part {n : Nat} (h : n < ps.length) : ps[n]? = some (ps.getD n noPart) := by
  rw [List.getD_eq_getElem?_getD, List.getElem?_eq_getElem h]; rfl
/-- A part, by its kind. -/
theorem part_view (ht : TabOk ps fs) (hf : ∀ g ∈ fs, Fine g) {n : Nat} (hn : n < ps.length) :
    (∃ a, pk ps n = 1 ∧ fs.getD n zeroF = .mk 1 a [] ∧ pnm ps n = a.data.toList) ∨ (pk ps n = 2 ∧ fs.getD n zeroF = .mk 2 ⟨#[]⟩ []) ∨ (pk ps n = 3 ∧ fs.getD n zeroF = .mk 3 ⟨#[]⟩ []) ∨
    ((pk ps n = 4 ∨ pk ps n = 8 ∨ pk ps n = 9) ∧ fs.getD n zeroF = .mk (pk ps n) ⟨#[]⟩ [fs.getD (pa ps n) zeroF] ∧ pa ps n < n) ∨
    ((pk ps n = 5 ∨ pk ps n = 6 ∨ pk ps n = 7) ∧ fs.getD n zeroF = .mk (pk ps n) ⟨#[]⟩ [fs.getD (pa ps n) zeroF, fs.getD (pb ps n) zeroF] ∧ pa ps n < n ∧ pb ps n < n) := by
  obtain ⟨h1, h2⟩ := ht.at' n _ (getD_part hn); (have e : fs.getD n zeroF = (ps.getD n noPart).fm fs := by rw [List.getD_eq_getElem?_getD, h2]; rfl); have hfi : Fine ((ps.getD n noPart).fm fs) := hf _ (List.mem_of_getElem? h2); unfold pk pa pb pnm; rw [e]; generalize ps.getD n noPart = q at *; obtain ⟨k, a, ks⟩ := q; unfold PartM.fm at hfi ⊢; simp only at h1 hfi ⊢
  rcases hfi.forms with ⟨b, h, -⟩ | h | h | ⟨c, g, hc, h, -⟩ | ⟨c, g, g', hc, h, -, -⟩
  · injection h with h3 h4 h5
    (exact Or.inl ⟨a, h3, by rw [h3, h5], rfl⟩)
  · injection h with h3 h4 h5
    (exact Or.inr (Or.inl ⟨h3, by rw [h3, h4, h5]⟩))
  · injection h with h3 h4 h5
    (exact Or.inr (Or.inr (Or.inl ⟨h3, by rw [h3, h4, h5]⟩)))
  · injection h with h3 h4 h5
    match ks, h1, h5 with
    | [j], h1, h5 =>
      refine Or.inr (Or.inr (Or.inr (Or.inl ⟨by rw [h3]; exact hc, by rw [h4]; rfl, h1 j (by simp)⟩)))
    | [], _, h5 => simp at h5
    | _ :: _ :: _, _, h5 => simp at h5
  · injection h with h3 h4 h5
    match ks, h1, h5 with
    | [i, j], h1, h5 =>
      exact Or.inr (Or.inr (Or.inr (Or.inr ⟨by rw [h3]; exact hc, by rw [h4]; rfl, h1 i (by simp), h1 j (by simp)⟩)))
    | [], _, h5 => simp at h5
    | [_], _, h5 => simp at h5
    | _ :: _ :: _ :: _, _, h5 => simp at h5
theorem whole_iff {h : Nat} : wholeB ps h = true ↔ ∀ n, n < ps.length → h.testBit n = trN ps h n := by
  unfold wholeB; simp only [List.all_eq_true, List.mem_range, beq_iff_eq]
theorem sub_iff {N : Nat} {P Q : Nat → Bool} : subB N P Q = true ↔ ∀ i, i < N → P i = true → Q i = true := by
  unfold subB; exact decide_eq_true_iff
theorem bm_same {N : Nat} {P Q : Nat → Bool} : bm N P = bm N Q ↔ ∀ i, i < N → P i = Q i := ⟨fun h i hi => bm_inj h i hi, fun h => bm_ext h⟩
theorem sees_next {k u v : Nat} (h : seesB ps k u v = true) : nextB ps u v = true := by
  unfold seesB onwB byndB at h
  split at h
  · simp only [Bool.and_eq_true] at h; exact h.1.1
  split at h
  · simp only [Bool.and_eq_true] at h; exact h.1
  split at h
  · simp only [Bool.and_eq_true] at h; exact h.1.1
  split at h
  · simp only [Bool.and_eq_true] at h; exact h.1
  split at h
  · simp only [Bool.and_eq_true] at h; exact h.1
  · exact h
theorem cont_iff {k : Nat} {l : List Nat} {u : Nat} : contB ps k l u = true ↔ (∀ n, n < ps.length → wnB ps u n = true → ∃ v ∈ l, seesB ps k u v = true ∧ swB ps v n = true) ∧ (k = 2 → ∃ v ∈ l, seesB ps k u v = true) := by
  unfold contB someB shownB; rw [Bool.and_eq_true, decide_eq_true_iff, bm_same, Bool.or_eq_true, List.any_eq_true, Bool.not_eq_true']; (have e : (k == 2) = false ↔ k ≠ 2 := by simp); rw [e]
  constructor
  · rintro ⟨h1, h2⟩
    (refine ⟨fun n hn hw => ?_, fun hk => ?_⟩)
    · rw [← h1 n hn, List.any_eq_true] at hw
      obtain ⟨v, hv, h⟩ := hw; exact ⟨v, hv, Bool.and_eq_true_iff.1 h⟩
    · rcases h2 with h2 | h2
      · exact h2
      · exact absurd hk h2
  · rintro ⟨h1, h2⟩
    (refine ⟨fun n hn => ?_, ?_⟩)
    · rw [Bool.eq_iff_iff, List.any_eq_true]
      constructor
      · rintro ⟨v, hv, h⟩
        rw [Bool.and_eq_true] at h; exact sub_iff.1 (sees_next h.1) n hn h.2
      · intro h
        obtain ⟨v, hv, h3, h4⟩ := h1 n hn h; (exact ⟨v, hv, by rw [h3, h4]; rfl⟩)
    · by_cases hk : k = 2
      · exact Or.inl (h2 hk)
      · exact Or.inr hk
/-- What is content stays so among more. -/
theorem cont_more {k : Nat} {l l' : List Nat} {u : Nat} (h : contB ps k l u = true) (hs : ∀ x ∈ l, x ∈ l') : contB ps k l' u = true := by
  rw [cont_iff] at h ⊢; (refine ⟨fun n hn hw => ?_, fun hk => ?_⟩)
  · obtain ⟨v, hv, h2⟩ := h.1 n hn hw
    exact ⟨v, hs v hv, h2⟩
  · obtain ⟨v, hv, h2⟩ := h.2 hk
    exact ⟨v, hs v hv, h2⟩

/-! The model of a list of worlds. -/
def wAt (l : List Nat) (i : Nat) : Nat := l.getD i 0
def relW (ps : List PartM) (k : Nat) (l : List Nat) (i j : Nat) : Bool := seesB ps k (wAt l i) (wAt l j)
def namW (ps : List PartM) (l : List Nat) (i : Nat) (s : List UInt8) : Bool := (List.range ps.length).any fun n => decide (pk ps n = 1) && (decide (pnm ps n = s) && (wAt l i).testBit n)
theorem wAt_mem {l : List Nat} {i : Nat} (h : i < l.length) : wAt l i ∈ l := by
  unfold wAt; rw [List.getD_eq_getElem?_getD, List.getElem?_eq_getElem h]; exact List.getElem_mem h
theorem wAt_of {l : List Nat} {x : Nat} (h : x ∈ l) : ∃ i, i < l.length ∧ wAt l i = x := by
  obtain ⟨i, hi, e⟩ := List.getElem_of_mem h; refine ⟨i, hi, ?_⟩; unfold wAt; rw [List.getD_eq_getElem?_getD, List.getElem?_eq_getElem hi, e]; rfl
/-- Just the parts in a world are true at it. -/
theorem truth_at (ht : TabOk ps fs) (hf : ∀ g ∈ fs, Fine g) {k : Nat} {l : List Nat} (hl : Stable ps k l) : ∀ (m n : Nat), n < m → n < ps.length → ∀ i, i < l.length → mtv (seeR l.length (relW ps k l)) (namW ps l) (fs.getD n zeroF) i = (wAt l i).testBit n := by
  intro m
  induction m with
  | zero => intro n hn; omega
  | succ m ih =>
    intro n hnm hn i hi; obtain ⟨-, h2, -, h4⟩ := hl _ (wAt_mem hi); have hw := whole_iff.1 h2 n hn
    rcases part_view ht hf hn with ⟨a, e1, e2, e3⟩ | ⟨e1, e2⟩ | ⟨e1, e2⟩ | ⟨e1, e2, e3⟩ | ⟨e1, e2, e3, e4⟩
    · rw [e2, mtv, mtvs]
      show namW ps l i a.data.toList = _; rw [Bool.eq_iff_iff]; unfold namW; rw [List.any_eq_true]
      constructor
      · rintro ⟨j, hj, h⟩
        rw [List.mem_range] at hj; simp only [Bool.and_eq_true, decide_eq_true_iff] at h; obtain ⟨q1, q2, q3⟩ := h
        rcases part_view ht hf hj with ⟨a', d1, d2, d3⟩ | ⟨d1, -⟩ | ⟨d1, -⟩ | ⟨d1, -⟩ | ⟨d1, -⟩
        · have : a' = a := by
            apply ByteArray.ext; apply Array.ext'; rw [← d3, q2]
          rw [this, ← e2] at d2; (have := nodup_inj ht.nodup (by rw [← ht.len]; exact hj) (by rw [← ht.len]; exact hn) d2); rw [← this]; exact q3
        all_goals omega
      · intro h
        (exact ⟨n, List.mem_range.2 hn, by simp [e1, e3, h]⟩)
    · rw [e2, mtv, mtvs, hw]
      simp [mval, trN, e1]
    · rw [e2, mtv, mtvs, hw]
      simp [mval, trN, e1]
    · have ihA := ih (pa ps n) (by omega) (by omega)
      rw [e2]
      rcases e1 with e1 | e1 | e1
      · rw [e1, mtv_not, hw]
        simp only; rw [ihA i hi]; simp [trN, e1]
      · rw [e1, mtv_box]
        simp only; rw [Bool.eq_iff_iff, List.all_eq_true]; simp only [mem_seeR, and_imp]; (have hm : isMd ps n = true := by simp [isMd, e1])
        constructor
        · intro h
          cases hb : (wAt l i).testBit n with
          | true => rfl
          | false =>
            (obtain ⟨v, hv, h5, h6⟩ := (cont_iff.1 h4).1 n hn (by simp [wnB, hm, hb, e1])); obtain ⟨j, hj, rfl⟩ := wAt_of hv; have := h j hj h5; rw [ihA j hj] at this; simp [swB, hm, e1, this] at h6
        · intro h j hj hr
          rw [ihA j hj]
          cases hb : (wAt l j).testBit (pa ps n) with
          | true => rfl
          | false =>
            (have := sub_iff.1 (sees_next hr) n hn (by simp [swB, hm, hb, e1])); simp [wnB, hm, h, e1] at this
      · rw [e1, mtv_dia]
        simp only; rw [Bool.eq_iff_iff, List.any_eq_true]; (have hm : isMd ps n = true := by simp [isMd, e1])
        constructor
        · rintro ⟨j, hj, h⟩
          obtain ⟨hj1, hj2⟩ := mem_seeR.1 hj; rw [ihA j hj1] at h; (have := sub_iff.1 (sees_next hj2) n hn (by simp [swB, hm, h, e1])); simpa [wnB, hm, e1] using this
        · intro h
          (obtain ⟨v, hv, h5, h6⟩ := (cont_iff.1 h4).1 n hn (by simp [wnB, hm, h, e1])); obtain ⟨j, hj, rfl⟩ := wAt_of hv; refine ⟨j, mem_seeR.2 ⟨hj, h5⟩, ?_⟩; rw [ihA j hj]; simpa [swB, hm, e1] using h6
    · have ihA := ih (pa ps n) (by omega) (by omega) i hi
      (have ihB := ih (pb ps n) (by omega) (by omega) i hi); rw [e2, hw]
      rcases e1 with e1 | e1 | e1
      · rw [e1, mtv_and]
        simp only; rw [ihA, ihB]; simp [trN, e1]
      · rw [e1, mtv_or]
        simp only; rw [ihA, ihB]; simp [trN, e1]
      · rw [e1, mtv_then]
        simp only; rw [ihA, ihB]; simp [trN, e1]
theorem bynd_trans {a b c : Nat} (h1 : byndB ps a b = true) (h2 : byndB ps b c = true) : byndB ps a c = true := by
  unfold byndB at *; rw [Bool.and_eq_true] at *; obtain ⟨-, q2⟩ := h1; obtain ⟨q3, q4⟩ := h2; (exact ⟨sub_iff.2 fun i hi h => sub_iff.1 q2 i hi (sub_iff.1 q3 i hi h), sub_iff.2 fun i hi h => sub_iff.1 q2 i hi (sub_iff.1 q4 i hi h)⟩)
theorem onw_trans {a b c : Nat} (h1 : onwB ps a b = true) (h2 : onwB ps b c = true) : onwB ps a c = true := by
  unfold onwB at *; rw [Bool.and_eq_true] at *; refine ⟨bynd_trans h1.1 h2.1, ?_⟩; have q1 := h1.1; have q2 := h2.1; unfold byndB at q1 q2; rw [Bool.and_eq_true] at q1 q2; have q3 := h1.2; simp only [Bool.not_eq_true', decide_eq_false_iff_not] at q3 ⊢; intro e; (refine q3 (bm_same.2 fun i hi => ?_)); rw [Bool.eq_iff_iff]
  constructor
  · intro h
    rw [bm_same.1 e i hi] at h; exact sub_iff.1 q2.2 i hi h
  · exact sub_iff.1 q1.2 i hi
theorem allow_its {k u : Nat} (h : allowB ps k u = true) (hk : itsB k = true) : seesB ps k u u = true := by
  unfold allowB at h; rw [hk] at h; simpa using h
/-- It is a model of the logic. -/
theorem of_stable {k : Nat} (hk : 1 ≤ k ∧ k ≤ 8) {l : List Nat} (hl : Stable ps k l) : ofB k l.length (relW ps k l) = true := by
  (have refl : itsB k = true → sh0 l.length (relW ps k l) = true := fun h => sh0_iff.2 fun u hu => allow_its (hl _ (wAt_mem hu)).2.2.1 h); obtain ⟨h1, h8⟩ := hk; (have hc : k = 1 ∨ k = 2 ∨ k = 3 ∨ k = 4 ∨ k = 5 ∨ k = 6 ∨ k = 7 ∨ k = 8 := by omega)
  rcases hc with rfl | rfl | rfl | rfl | rfl | rfl | rfl | rfl
  · rfl
  · refine sh4_iff.2 fun u hu => ?_
    obtain ⟨v, hv, h⟩ := (cont_iff.1 (hl _ (wAt_mem hu)).2.2.2).2 rfl; obtain ⟨j, hj, rfl⟩ := wAt_of hv; exact ⟨j, hj, h⟩
  · exact refl rfl
  · exact sh1_iff.2 fun u v x _ _ _ a b => bynd_trans a b
  · show (sh0 _ _ && sh1 _ _) = true
    rw [refl rfl]; (exact sh1_iff.2 fun u v x _ _ _ a b => bynd_trans a b)
  · show ((sh0 _ _ && sh1 _ _) && sh2 _ _) = true
    rw [refl rfl, Bool.true_and, Bool.and_eq_true]; (refine ⟨sh1_iff.2 fun u v x _ _ _ a b => ?_, sh2_iff.2 fun u v _ _ a => ?_⟩)
    · have a' : (byndB ps _ _ && byndB ps _ _) = true := a
      have b' : (byndB ps _ _ && byndB ps _ _) = true := b; rw [Bool.and_eq_true] at a' b'; show (byndB ps _ _ && byndB ps _ _) = true; rw [Bool.and_eq_true]; exact ⟨bynd_trans a'.1 b'.1, bynd_trans b'.2 a'.2⟩
    · have a' : (byndB ps _ _ && byndB ps _ _) = true := a
      rw [Bool.and_eq_true] at a'; show (byndB ps _ _ && byndB ps _ _) = true; rw [Bool.and_eq_true]; exact ⟨a'.2, a'.1⟩
  · show (sh0 _ _ && sh2 _ _) = true
    rw [refl rfl, Bool.true_and]; (refine sh2_iff.2 fun u v _ _ a => ?_); have a' : (nextB ps _ _ && nextB ps _ _) = true := a; rw [Bool.and_eq_true] at a'; show (nextB ps _ _ && nextB ps _ _) = true; rw [Bool.and_eq_true]; exact ⟨a'.2, a'.1⟩
  · refine sh5_iff.2 ⟨sh1_iff.2 fun u v x _ _ _ a b => onw_trans a b, fun u _ => ?_⟩
    show onwB ps _ _ = false; simp [onwB]
end
end Go.Proofs.Ytmahgfgndfcmpag
/- What is true at the worlds of a logic's model is content; what is left over decides, plain. -/
namespace Go.Proofs.Ytmahgfgndfcmpag

section
variable {ps : List PartM} {fs : List Fm} {N : Nat} {R : Nat → Nat → Bool} {p : Nat → List UInt8 → Bool}
/-- The parts that are true at a world. -/
def typ (ps : List PartM) (fs : List Fm) (N : Nat) (R : Nat → Nat → Bool) (p : Nat → List UInt8 → Bool) (u : Nat) : Nat := bm ps.length fun n => mtv (seeR N R) p (fs.getD n zeroF) u
theorem typ_bit {u n : Nat} (hn : n < ps.length) : (typ ps fs N R p u).testBit n = mtv (seeR N R) p (fs.getD n zeroF) u := by
  unfold typ; rw [bm_bit]; simp [hn]
theorem typ_whole (ht : TabOk ps fs) (hf : ∀ g ∈ fs, Fine g) (u : Nat) : wholeB ps (typ ps fs N R p u) = true := by
  (refine whole_iff.2 fun n hn => ?_); rw [typ_bit hn]
  rcases part_view ht hf hn with ⟨a, e1, e2, e3⟩ | ⟨e1, e2⟩ | ⟨e1, e2⟩ | ⟨e1, e2, e3⟩ | ⟨e1, e2, e3, e4⟩
  · simp [trN, e1, typ_bit hn]
  · rw [e2, mtv, mtvs]
    simp [mval, trN, e1]
  · rw [e2, mtv, mtvs]
    simp [mval, trN, e1]
  · have hA : (typ ps fs N R p u).testBit (pa ps n) = mtv (seeR N R) p (fs.getD (pa ps n) zeroF) u := typ_bit (by omega)
    rcases e1 with e1 | e1 | e1
    · rw [e2, e1, mtv_not]
      simp [trN, e1, hA]
    · simp [trN, e1, typ_bit hn]
    · simp [trN, e1, typ_bit hn]
  · have hA : (typ ps fs N R p u).testBit (pa ps n) = mtv (seeR N R) p (fs.getD (pa ps n) zeroF) u := typ_bit (by omega)
    (have hB : (typ ps fs N R p u).testBit (pb ps n) = mtv (seeR N R) p (fs.getD (pb ps n) zeroF) u := typ_bit (by omega))
    rcases e1 with e1 | e1 | e1
    · rw [e2, e1, mtv_and]
      simp [trN, e1, hA, hB]
    · rw [e2, e1, mtv_or]
      simp [trN, e1, hA, hB]
    · rw [e2, e1, mtv_then]
      simp [trN, e1, hA, hB]
/-- What a world shows and wants, by its neighbours. -/
theorem sw_typ (ht : TabOk ps fs) (hf : ∀ g ∈ fs, Fine g) {n : Nat} (hn : n < ps.length) (v : Nat) : swB ps (typ ps fs N R p v) n = (isMd ps n && (mtv (seeR N R) p (fs.getD (pa ps n) zeroF) v == decide (pk ps n = 9))) := by
  unfold swB
  cases hm : isMd ps n with
  | false => rfl
  | true =>
    have : pa ps n < ps.length := by
      rcases part_view ht hf hn with ⟨a, e1, e2, e3⟩ | ⟨e1, e2⟩ | ⟨e1, e2⟩ | ⟨e1, e2, e3⟩ | ⟨e1, e2, e3, e4⟩
      · simp [isMd, e1] at hm
      · simp [isMd, e1] at hm
      · simp [isMd, e1] at hm
      · omega
      · omega
    rw [typ_bit this]
theorem wn_typ (ht : TabOk ps fs) (hf : ∀ g ∈ fs, Fine g) {n : Nat} (hn : n < ps.length) (u : Nat) : wnB ps (typ ps fs N R p u) n = true ↔ ∃ v, v < N ∧ R u v = true ∧ swB ps (typ ps fs N R p v) n = true := by
  (have hsw := fun v => sw_typ (N := N) (R := R) (p := p) ht hf hn v); simp only [hsw]; unfold wnB; rw [typ_bit hn]
  cases hm : isMd ps n with
  | false => simp
  | true =>
    rcases part_view ht hf hn with ⟨a, e1, e2, e3⟩ | ⟨e1, e2⟩ | ⟨e1, e2⟩ | ⟨e1, e2, e3⟩ | ⟨e1, e2, e3, e4⟩
    · simp [isMd, e1] at hm
    · simp [isMd, e1] at hm
    · simp [isMd, e1] at hm
    · rcases e1 with e1 | e1 | e1
      · simp [isMd, e1] at hm
      · rw [e2, e1, mtv_box]
        (have : decide ((8 : Int) = 9) = false := by decide); simp only [this, Bool.true_and, beq_false, Bool.not_eq_true', List.all_eq_false, mem_seeR]
        constructor
        · rintro ⟨v, ⟨h1, h2⟩, h3⟩
          (exact ⟨v, h1, h2, by simpa using h3⟩)
        · rintro ⟨v, h1, h2, h3⟩
          (exact ⟨v, ⟨h1, h2⟩, by simpa using h3⟩)
      · rw [e2, e1, mtv_dia]
        simp only [decide_true, Bool.true_and, beq_true, List.any_eq_true, mem_seeR]
        constructor
        · rintro ⟨v, ⟨h1, h2⟩, h3⟩
          exact ⟨v, h1, h2, h3⟩
        · rintro ⟨v, h1, h2, h3⟩
          exact ⟨v, ⟨h1, h2⟩, h3⟩
    · rcases e1 with e1 | e1 | e1 <;> simp [isMd, e1] at hm
theorem next_typ (ht : TabOk ps fs) (hf : ∀ g ∈ fs, Fine g) {u v : Nat} (hv : v < N) (h : R u v = true) : nextB ps (typ ps fs N R p u) (typ ps fs N R p v) = true :=
  sub_iff.2 fun _ hn hs => (wn_typ ht hf hn u).2 ⟨v, hv, h, hs⟩
theorem bynd_typ (ht : TabOk ps fs) (hf : ∀ g ∈ fs, Fine g) (h1 : sh1 N R = true) {u v : Nat} (hu : u < N) (hv : v < N) (h : R u v = true) : byndB ps (typ ps fs N R p u) (typ ps fs N R p v) = true := by
  unfold byndB; rw [Bool.and_eq_true]; (refine ⟨next_typ ht hf hv h, sub_iff.2 fun n hn hw => ?_⟩); obtain ⟨x, hx, h2, h3⟩ := (wn_typ ht hf hn v).1 hw; exact (wn_typ ht hf hn u).2 ⟨x, hx, sh1_iff.1 h1 u v x hu hv hx h h2, h3⟩
/-- Of the worlds that are seen and are so, a last one. -/
theorem last_of (h5 : sh5 N R = true) (P : Nat → Bool) {u : Nat} (hu : u < N) : ∀ (m v : Nat), (seeR N R v).length < m → v < N → R u v = true → P v = true → ∃ z, z < N ∧ R u z = true ∧ P z = true ∧ ∀ y, y < N → R z y = true → P y = false := by
  obtain ⟨h1, hi⟩ := sh5_iff.1 h5; have ht := sh1_iff.1 h1; intro m
  induction m with
  | zero => intro v h; exact absurd h (Nat.not_lt_zero _)
  | succ m ih =>
    intro v hm hv hr hp; by_cases hx : ∃ x, x < N ∧ R v x = true ∧ P x = true
    · obtain ⟨x, hx, h3, h4⟩ := hx
      refine ih x ?_ hx (ht u v x hu hv hx hr h3) h4
      have hs : (seeR N R x).length < (seeR N R v).length := by
        have e : seeR N R x = (seeR N R v).filter (R x) := by
          rw [seeR, seeR, List.filter_filter]; (refine List.filter_congr fun y hy => ?_); rw [List.mem_range] at hy
          cases hxy : R x y with
          | false => rfl
          | true => rw [ht v x y hv hx hy h3 hxy]; rfl
        rw [e]
        rcases Nat.lt_or_ge ((seeR N R v).filter (R x)).length (seeR N R v).length with h4 | h4
        · exact h4
        · have h5 := List.length_filter_le (R x) (seeR N R v)
          (have h6 : (seeR N R v).filter (R x) = seeR N R v := List.filter_sublist.eq_of_length (by omega)); (have h7 : x ∈ (seeR N R v).filter (R x) := by rw [h6]; exact mem_seeR.2 ⟨hx, h3⟩); have := (List.mem_filter.1 h7).2; rw [hi x hx] at this
          cases this
      omega
    · refine ⟨v, hv, hr, hp, fun y hy h3 => ?_⟩
      cases hpy : P y with
      | false => rfl
      | true => exact absurd ⟨y, hy, h3, hpy⟩ hx
/-- The worlds of a model. -/
def typs (ps : List PartM) (fs : List Fm) (N : Nat) (R : Nat → Nat → Bool) (p : Nat → List UInt8 → Bool) : List Nat := (List.range N).map (typ ps fs N R p)
theorem typ_sees (ht : TabOk ps fs) (hf : ∀ g ∈ fs, Fine g) {k : Nat} (hk : 1 ≤ k ∧ k ≤ 7) (ho : ofB k N R = true) {u v : Nat} (hu : u < N) (hv : v < N) (h : R u v = true) : seesB ps k (typ ps fs N R p u) (typ ps fs N R p v) = true := by
  (have hc : k = 1 ∨ k = 2 ∨ k = 3 ∨ k = 4 ∨ k = 5 ∨ k = 6 ∨ k = 7 := by omega)
  rcases hc with rfl | rfl | rfl | rfl | rfl | rfl | rfl
  · exact next_typ ht hf hv h
  · exact next_typ ht hf hv h
  · exact next_typ ht hf hv h
  · exact bynd_typ ht hf ho hu hv h
  · have ho : (sh0 N R && sh1 N R) = true := ho
    rw [Bool.and_eq_true] at ho; exact bynd_typ ht hf ho.2 hu hv h
  · have ho : ((sh0 N R && sh1 N R) && sh2 N R) = true := ho
    rw [Bool.and_eq_true, Bool.and_eq_true] at ho; show (byndB ps _ _ && byndB ps _ _) = true; rw [Bool.and_eq_true]; exact ⟨bynd_typ ht hf ho.1.2 hu hv h, bynd_typ ht hf ho.1.2 hv hu (sh2_iff.1 ho.2 u v hu hv h)⟩
  · have ho : (sh0 N R && sh2 N R) = true := ho
    rw [Bool.and_eq_true] at ho; show (nextB ps _ _ && nextB ps _ _) = true; rw [Bool.and_eq_true]; exact ⟨next_typ ht hf hv h, next_typ ht hf hu (sh2_iff.1 ho.2 u v hu hv h)⟩
theorem its_sh0 {k : Nat} (ho : ofB k N R = true) (hi : itsB k = true) : sh0 N R = true := by
  (have hc : k = 3 ∨ k = 5 ∨ k = 6 ∨ k = 7 := by simpa [itsB, or_assoc] using hi)
  rcases hc with rfl | rfl | rfl | rfl
  · exact ho
  · have ho : (sh0 N R && sh1 N R) = true := ho
    rw [Bool.and_eq_true] at ho; exact ho.1
  · have ho : ((sh0 N R && sh1 N R) && sh2 N R) = true := ho
    rw [Bool.and_eq_true, Bool.and_eq_true] at ho; exact ho.1.1
  · have ho : (sh0 N R && sh2 N R) = true := ho
    rw [Bool.and_eq_true] at ho; exact ho.1
theorem stable_typs (ht : TabOk ps fs) (hf : ∀ g ∈ fs, Fine g) {k : Nat} (hk : 1 ≤ k ∧ k ≤ 8) (ho : ofB k N R = true) : Stable ps k (typs ps fs N R p) := by
  intro x hx; obtain ⟨u, hu, rfl⟩ := List.mem_map.1 hx; rw [List.mem_range] at hu; refine ⟨bm_lt _ _, typ_whole ht hf u, ?_, ?_⟩
  · unfold allowB
    cases hi : itsB k with
    | false => rfl
    | true =>
      have h0 := its_sh0 ho hi
      have hk7 : k ≤ 7 := by
        rcases Nat.lt_or_ge k 8 with h | h
        · omega
        · have : k = 8 := by omega
          subst this
          cases hi
      exact typ_sees ht hf ⟨hk.1, hk7⟩ ho hu hu (sh0_iff.1 h0 u hu)
  · rw [cont_iff]
    (refine ⟨fun n hn hw => ?_, fun h2 => ?_⟩)
    · by_cases h8 : k = 8
      · subst h8
        have h5 : sh5 N R = true := ho; obtain ⟨v, hv, h1, h3⟩ := (wn_typ ht hf hn u).1 hw; (obtain ⟨z, hz, q1, q2, q3⟩ := last_of h5 (fun v => swB ps (typ ps fs N R p v) n) hu _ v (Nat.lt_succ_self _) hv h1 h3); refine ⟨_, List.mem_map.2 ⟨z, List.mem_range.2 hz, rfl⟩, ?_, q2⟩; show onwB ps _ _ = true; unfold onwB; rw [bynd_typ ht hf (sh5_iff.1 h5).1 hu hz q1, Bool.true_and]; simp only [Bool.not_eq_true', decide_eq_false_iff_not]; intro e; have := bm_same.1 e n hn; rw [hw] at this; obtain ⟨y, hy, d1, d2⟩ := (wn_typ ht hf hn z).1 this.symm; have := q3 y hy d1; rw [d2] at this
        cases this
      · obtain ⟨v, hv, h1, h3⟩ := (wn_typ ht hf hn u).1 hw
        (exact ⟨_, List.mem_map.2 ⟨v, List.mem_range.2 hv, rfl⟩, typ_sees ht hf ⟨hk.1, by omega⟩ ho hu hv h1, h3⟩)
    · subst h2
      obtain ⟨v, hv, h1⟩ := sh4_iff.1 ho u hu; (exact ⟨_, List.mem_map.2 ⟨v, List.mem_range.2 hv, rfl⟩, typ_sees ht hf (by omega) ho hu hv h1⟩)
/-- What is left over of all worlds: all content, and none that could be. -/
structure Left (ps : List PartM) (k : Nat) (l : List Nat) : Prop where
  ok : Stable ps k l
  most : ∀ S, Stable ps k S → ∀ x ∈ S, x ∈ l
theorem left_valid (ht : TabOk ps fs) (hf : ∀ g ∈ fs, Fine g) {k : Nat} (hk : 1 ≤ k ∧ k ≤ 8) {l : List Nat} (hl : Left ps k l) {n : Nat} {f : Fm} (hn : fs[n]? = some f) : ValidM k f ↔ ∀ x ∈ l, x.testBit n = true := by
  (have hlt : n < ps.length := by rw [ht.len]; exact (List.getElem?_eq_some_iff.1 hn).1); (have e : fs.getD n zeroF = f := by rw [List.getD_eq_getElem?_getD, hn]; rfl)
  constructor
  · intro h x hx
    obtain ⟨i, hi, rfl⟩ := wAt_of hx; have := h l.length (relW ps k l) (namW ps l) (of_stable hk hl.ok) i hi; rw [← e, truth_at ht hf hl.ok (n + 1) n (Nat.lt_succ_self _) hlt i hi] at this; exact this
  · intro h N R p ho u hu
    have := h _ (hl.most _ (stable_typs (p := p) ht hf hk ho) (typ ps fs N R p u) (List.mem_map.2 ⟨u, List.mem_range.2 hu, rfl⟩)); rw [typ_bit hlt, e] at this; exact this
/-- One more pass over what is left. -/
theorem left_pass {k : Nat} {l : List Nat} (h : ∀ S, Stable ps k S → ∀ x ∈ S, x ∈ l) : ∀ S, Stable ps k S → ∀ x ∈ S, x ∈ l.filter (contB ps k l) := fun S hS x hx =>
  List.mem_filter.2 ⟨h S hS x hx, cont_more (hS x hx).2.2.2 (h S hS)⟩
/-- A pass that lets none go is the last. -/
theorem left_end {k : Nat} {l : List Nat} (h0 : ∀ x ∈ l, x < 2 ^ ps.length ∧ wholeB ps x = true ∧ allowB ps k x = true) (h : ∀ S, Stable ps k S → ∀ x ∈ S, x ∈ l) (he : (l.filter (contB ps k l)).length = l.length) : Left ps k l := by
  have h6 : l.filter (contB ps k l) = l := List.filter_sublist.eq_of_length he; (refine ⟨fun x hx => ?_, h⟩); obtain ⟨a, b, c⟩ := h0 x hx; rw [← h6] at hx; exact ⟨a, b, c, (List.mem_filter.1 hx).2⟩
end
end Go.Proofs.Ytmahgfgndfcmpag
