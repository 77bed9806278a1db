/- Texts of one proof, one behind the other: TP2. -/
import Derived.Test.YtffkoiemnchdgabB36
/- Post's theorem, plain: what is in no class makes all. -/
namespace Go.Proofs.Ytffkoiemnchdgab

theorem const_bit (c : Bool) {r : Nat} (hr : r < 4) : (if c then 15 else 0 : Nat).testBit r = c := by
  cases c
  · simp
  · rcases (by omega : r = 0 ∨ r = 1 ∨ r = 2 ∨ r = 3) with rfl | rfl | rfl | rfl <;> decide
theorem not_bit {z r : Nat} (hz : z < 16) (hr : r < 4) : (15 - z).testBit r = !z.testBit r := by
  (have : ∀ z, z < 16 → ∀ r, r < 4 → (15 - z).testBit r = !z.testBit r := by decide); exact this z hz r hr
theorem out_of {ts : List Tb} {i : Nat} (h : allC ts i = false) : ∃ t ∈ ts, clsT i t = false := by
  unfold allC at h; rw [Bool.not_eq_false', List.any_eq_true] at h; obtain ⟨t, ht, hb⟩ := h; (exact ⟨t, ht, by simpa using hb⟩)

/-- The same value for all. -/
theorem at_same {t : Tb} (hok : t.Ok) (b : Bool) : t.at (fun _ => b) = if b then t.bits.getD (t.bits.length - 1) false else t.bits.getD 0 false := by
  unfold Tb.at
  cases b
  · rw [idx_none fun _ _ => rfl]; rfl
  · have h0 := idx_not t.n fun _ => true
    (rw [show (idx t.n fun _ => !true) = 0 from idx_none fun _ _ => rfl, Nat.zero_add] at h0); rw [h0, hok.2]; rfl

section
variable {ts : List Tb} (hok : ∀ t ∈ ts, t.Ok)
include hok

theorem not_by {t : Tb} (ht : t ∈ ts) (h0 : t.bits.getD 0 false = true) (h1 : t.bits.getD (t.bits.length - 1) false = false) {z : Nat} (hz : Gen ts z) : Gen ts (15 - z) :=
  Gen.of ht (fun _ => z) (fun _ _ => hz) (by have := hz.lt; omega) fun r hr => by
    rw [not_bit hz.lt hr, at_same (hok t ht), h0, h1]
    cases z.testBit r <;> rfl
theorem const_by {t : Tb} (ht : t ∈ ts) (c : Bool) (h0 : t.bits.getD 0 false = c) (h1 : t.bits.getD (t.bits.length - 1) false = c) : Gen ts (if c then 15 else 0) :=
  Gen.of ht (fun _ => 10) (fun _ _ => Gen.x) (by cases c <;> decide) fun r hr => by
    rw [const_bit c hr, at_same (hok t ht), h0, h1]
    cases (10 : Nat).testBit r <;> rfl

/-- Opposites, or both constants. -/
theorem post_first (a0 : allC ts 0 = false) (a1 : allC ts 1 = false) : (∀ z, Gen ts z → Gen ts (15 - z)) ∨ (Gen ts 0 ∧ Gen ts 15) := by
  obtain ⟨t, ht, h⟩ := out_of a0; obtain ⟨u, hu, k⟩ := out_of a1
  have h0 : t.bits.getD 0 false = true := by
    have : cls0 t.bits = false := h; unfold cls0 at this; simpa using this
  have k1 : u.bits.getD (u.bits.length - 1) false = false := k
  cases h1 : t.bits.getD (t.bits.length - 1) false
  · exact Or.inl fun z hz => not_by hok ht h0 h1 hz
  · cases k0 : u.bits.getD 0 false
    · exact Or.inr ⟨const_by hok hu false k0 k1, const_by hok ht true h0 h1⟩
    · exact Or.inl fun z hz => not_by hok hu k0 k1 hz

theorem post_consts (a2 : allC ts 2 = false) (hn : ∀ z, Gen ts z → Gen ts (15 - z)) : Gen ts 0 ∧ Gen ts 15 := by
  obtain ⟨t, ht, h⟩ := out_of a2; have h' : cls2 t.bits = false := h; unfold cls2 at h'; rw [List.all_eq_false] at h'; obtain ⟨k, hk, he⟩ := h'; (have hk' : k < 2 ^ t.n := by rw [← (hok t ht).2]; exact List.mem_range.1 hk)
  have he' : t.bits.getD k false = t.bits.getD (t.bits.length - 1 - k) false := by
    revert he
    cases t.bits.getD k false <;> cases t.bits.getD (t.bits.length - 1 - k) false <;> simp
  (have e1 : t.at k.testBit = t.bits.getD k false := by unfold Tb.at; rw [idx_of hk'])
  have e2 : t.at (fun i => !k.testBit i) = t.bits.getD k false := by
    unfold Tb.at; have h0 := idx_not t.n k.testBit; rw [idx_of hk'] at h0; (rw [he', (hok t ht).2, show 2 ^ t.n - 1 - k = idx t.n (fun i => !k.testBit i) by omega])
  have hc : Gen ts (if t.bits.getD k false then 15 else 0) := by
    (refine Gen.of ht (fun i => if k.testBit i then 10 else 5) (fun i _ => ?_) (by split <;> decide) fun r hr => ?_)
    · show Gen ts (if k.testBit i then 10 else 5)
      split
      · exact Gen.x
      · exact hn 10 Gen.x
    · rw [const_bit _ hr]
      (have h5 : (5 : Nat).testBit r = !(10 : Nat).testBit r := not_bit (z := 10) (by decide) hr)
      cases hx : (10 : Nat).testBit r
      · rw [hx] at h5
        rw [← e2]; (refine t.at_congr fun i _ => ?_)
        cases k.testBit i <;> simp [hx, h5]
      · rw [hx] at h5
        rw [← e1]; (refine t.at_congr fun i _ => ?_)
        cases k.testBit i <;> simp [hx, h5]
  cases hb : t.bits.getD k false
  · rw [hb] at hc
    exact ⟨hc, hn 0 hc⟩
  · rw [hb] at hc
    exact ⟨hn 15 hc, hc⟩

theorem post_not (a3 : allC ts 3 = false) (hz : Gen ts 0) (ho : Gen ts 15) : ∀ z, Gen ts z → Gen ts (15 - z) := by
  obtain ⟨t, ht, h⟩ := out_of a3; have h' : cls3 t.n t.bits = false := h; unfold cls3 at h'; rw [List.all_eq_false] at h'; obtain ⟨q, hq, he⟩ := h'; rw [Bool.not_eq_true, List.all_eq_false] at he; obtain ⟨i, hi, hf⟩ := he; (have hq' : q < 2 ^ t.n := by rw [← (hok t ht).2]; exact List.mem_range.1 hq); have hi' : i < t.n := List.mem_range.1 hi
  have hb : t.bits.getD q false = true ∧ t.bits.getD (q ||| 2 ^ i) false = false := by
    revert hf
    cases t.bits.getD q false <;> cases t.bits.getD (q ||| 2 ^ i) false <;> simp
  have hqi : q.testBit i = false := by
    cases hb2 : q.testBit i
    · rfl
    · have : q ||| 2 ^ i = q := by
        apply Nat.eq_of_testBit_eq; intro j; rw [Nat.testBit_or, Nat.testBit_two_pow]; by_cases e : i = j
        · subst e; rw [hb2]; rfl
        · rw [decide_eq_false e, Bool.or_false]
      rw [this, hb.1] at hb
      cases hb.2
  intro z hz'; (refine Gen.of ht (fun j => if j = i then z else if q.testBit j then 15 else 0) (fun j _ => ?_) (by have := hz'.lt; omega) fun r hr => ?_)
  · show Gen ts (if j = i then z else if q.testBit j then 15 else 0)
    split
    · exact hz'
    · split
      · exact ho
      · exact hz
  · rw [not_bit hz'.lt hr]
    have key : t.at (fun j => (if j = i then z else if q.testBit j then 15 else 0 : Nat).testBit r) = t.bits.getD (if z.testBit r then q ||| 2 ^ i else q) false := by
      unfold Tb.at
      congr 1
      (refine bits_ext (idx_lt _ _) ?_ fun j hj => ?_)
      · split
        · exact Nat.or_lt_two_pow hq' (Nat.pow_lt_pow_right (by omega) hi')
        · exact hq'
      · rw [idx_bit _ _ j hj]
        by_cases e : j = i
        · subst e
          rw [if_pos rfl]
          cases hzr : z.testBit r
          · simp [hqi]
          · simp [Nat.testBit_or]
        · rw [if_neg e, const_bit _ hr]
          cases z.testBit r
          · simp
          · simp only [if_true]
            rw [Nat.testBit_or, Nat.testBit_two_pow, decide_eq_false (Ne.symm e), Bool.or_false]
    rw [key]
    cases z.testBit r
    · rw [if_neg (by decide), hb.1]; rfl
    · rw [if_pos rfl, hb.2]; rfl
end

/-! A face of odd parity. -/
def upd (v : Nat → Bool) (i : Nat) (b : Bool) (j : Nat) : Bool := if j = i then b else v j
def faceAt (t : Tb) (v : Nat → Bool) (i j : Nat) (p q : Bool) : Bool := t.at (upd (upd v i p) j q)

/-- The first j values of v, no others. -/
def low (v : Nat → Bool) (j i : Nat) : Bool := if i < j then v i else false

theorem even_aff {t : Tb} (h : ∀ v i j, i < t.n → j < t.n → i ≠ j → (faceAt t v i j false false ^^ faceAt t v i j false true ^^ faceAt t v i j true false ^^ faceAt t v i j true true) = false) (v : Nat → Bool) : t.at v = affN t.bits v t.n := by
  have two : ∀ i, i < t.n → t.at (upd (fun _ => false) i true) = t.bits.getD (2 ^ i) false := fun i hi => by
    unfold Tb.at
    congr 1
    (refine bits_ext (idx_lt _ _) (Nat.pow_lt_pow_right (by omega) hi) fun j hj => ?_); rw [idx_bit _ _ j hj, Nat.testBit_two_pow]; unfold upd; by_cases e : j = i
    · rw [if_pos e, decide_eq_true e.symm]
    · rw [if_neg e, decide_eq_false (Ne.symm e)]
  (have zero : t.at (fun _ => false) = t.bits.getD 0 false := by unfold Tb.at; rw [idx_none fun _ _ => rfl])
  -- the change by one value is the same everywhere
  have step : ∀ i, i < t.n → ∀ m, m ≤ i → (t.at (upd (low v m) i false) ^^ t.at (upd (low v m) i true)) = (t.bits.getD 0 false ^^ t.bits.getD (2 ^ i) false) := by
    intro i hi m
    induction m with
    | zero =>
      intro _
      have e0 : t.at (upd (low v 0) i false) = t.bits.getD 0 false := by
        rw [← zero]; (exact t.at_congr fun j _ => by simp [upd, low])
      have e1 : t.at (upd (low v 0) i true) = t.bits.getD (2 ^ i) false := by
        rw [← two i hi]; (exact t.at_congr fun j _ => by simp [upd, low])
      rw [e0, e1]
    | succ m ih =>
      intro hm; (have ih' := ih (by omega))
      cases hv : v m
      · rw [← ih']
        have e : ∀ b, t.at (upd (low v (m + 1)) i b) = t.at (upd (low v m) i b) := fun b => t.at_congr fun j _ => by
          unfold upd low; by_cases e1 : j = i
          · rw [if_pos e1, if_pos e1]
          · rw [if_neg e1, if_neg e1]
            by_cases e2 : j < m
            · rw [if_pos e2, if_pos (by omega)]
            · by_cases e3 : j = m
              · subst e3; rw [if_pos (by omega), if_neg e2, hv]
              · rw [if_neg (by omega), if_neg e2]
        rw [e, e]
      · have hf := h (low v m) m i (by omega) hi (by omega)
        unfold faceAt at hf
        have e0 : ∀ b, t.at (upd (upd (low v m) m false) i b) = t.at (upd (low v m) i b) := fun b => t.at_congr fun j _ => by
          unfold upd low; by_cases e1 : j = i
          · rw [if_pos e1, if_pos e1]
          · rw [if_neg e1, if_neg e1]
            by_cases e3 : j = m
            · subst e3; rw [if_pos rfl, if_neg (by omega)]
            · rw [if_neg e3]
        have e1 : ∀ b, t.at (upd (upd (low v m) m true) i b) = t.at (upd (low v (m + 1)) i b) := fun b => t.at_congr fun j _ => by
          unfold upd low; by_cases e1 : j = i
          · rw [if_pos e1, if_pos e1]
          · rw [if_neg e1, if_neg e1]
            by_cases e3 : j = m
            · subst e3; rw [if_pos rfl, if_pos (by omega), hv]
            · rw [if_neg e3]
              by_cases e2 : j < m
              · rw [if_pos e2, if_pos (by omega)]
              · rw [if_neg e2, if_neg (by omega)]
        rw [e0, e0, e1, e1] at hf; rw [← ih']
        revert hf
        cases t.at (upd (low v m) i false) <;> cases t.at (upd (low v m) i true) <;> cases t.at (upd (low v (m + 1)) i false) <;> cases t.at (upd (low v (m + 1)) i true) <;> decide
  have main : ∀ j, j ≤ t.n → t.at (low v j) = affN t.bits v j := by
    intro j
    induction j with
    | zero => exact fun _ => by rw [affN, ← zero]; exact t.at_congr fun i _ => by simp [low]
    | succ j ih =>
      intro hj; (have ih' := ih (by omega)); (have hs := step j (by omega) j (Nat.le_refl _))
      have e0 : t.at (upd (low v j) j false) = t.at (low v j) := t.at_congr fun i _ => by
        unfold upd low; by_cases e : i = j
        · subst e; rw [if_pos rfl, if_neg (by omega)]
        · rw [if_neg e]
      have e1 : t.at (upd (low v j) j (v j)) = t.at (low v (j + 1)) := t.at_congr fun i _ => by
        unfold upd low; by_cases e : i = j
        · subst e; rw [if_pos rfl, if_pos (by omega)]
        · rw [if_neg e]
          by_cases e2 : i < j
          · rw [if_pos e2, if_pos (by omega)]
          · rw [if_neg e2, if_neg (by omega)]
      rw [affN, ← e1, ← ih']; rw [e0] at hs
      cases hv : v j
      · rw [e0]; simp
      · revert hs
        cases t.at (low v j) <;> cases t.at (upd (low v j) j true) <;> cases t.bits.getD 0 false <;> cases t.bits.getD (2 ^ j) false <;> decide
  rw [← main t.n (Nat.le_refl _)]; (exact t.at_congr fun i hi => by unfold low; rw [if_pos hi])

theorem odd_face {t : Tb} (hok : t.Ok) (h : cls4 t.n t.bits = false) : ∃ v i j, i < t.n ∧ j < t.n ∧ i ≠ j ∧ (faceAt t v i j false false ^^ faceAt t v i j false true ^^ faceAt t v i j true false ^^ faceAt t v i j true true) = true := by
  apply Classical.byContradiction; intro hn
  have : cls4 t.n t.bits = true := (cls4_at hok).2 (even_aff fun v i j hi hj hij => by
    cases hb : (faceAt t v i j false false ^^ faceAt t v i j false true ^^ faceAt t v i j true false ^^ faceAt t v i j true true)
    · rfl
    · exact absurd ⟨v, i, j, hi, hj, hij, hb⟩ hn)
  rw [h] at this
  cases this

/-- An odd function of two values is a conjunction, but for opposites. -/
theorem odd_and (a b c d : Bool) (h : (a ^^ b ^^ c ^^ d) = true) : ∃ α β γ : Bool, ∀ p q : Bool, (p && q) = ((if p ^^ α then (if q ^^ β then d else c) else (if q ^^ β then b else a)) ^^ γ) := by
  revert h
  cases a <;> cases b <;> cases c <;> cases d <;> first
    | (intro h; exact absurd h (by decide))
    | (intro _; first
        | exact ⟨false, false, false, by decide⟩
        | exact ⟨false, false, true, by decide⟩
        | exact ⟨false, true, false, by decide⟩
        | exact ⟨false, true, true, by decide⟩
        | exact ⟨true, false, false, by decide⟩
        | exact ⟨true, false, true, by decide⟩
        | exact ⟨true, true, false, by decide⟩
        | exact ⟨true, true, true, by decide⟩)

theorem post_and {ts : List Tb} (hok : ∀ t ∈ ts, t.Ok) (a4 : allC ts 4 = false) (g0 : Gen ts 0) (g1 : Gen ts 15) (hn : ∀ z, Gen ts z → Gen ts (15 - z)) : ∀ z y, Gen ts z → Gen ts y → Gen ts (z &&& y) := by
  obtain ⟨t, ht, h⟩ := out_of a4; obtain ⟨v, i, j, hi, hj, hij, hodd⟩ := odd_face (hok t ht) h; obtain ⟨α, β, γ, hab⟩ := odd_and _ _ _ _ hodd; (have flip : ∀ (c : Bool) z, Gen ts z → Gen ts (if c then 15 - z else z) := fun c z hz => by cases c <;> simp [hz, hn z hz])
  have flipb : ∀ (c : Bool) z r, z < 16 → r < 4 → (if c then 15 - z else z : Nat).testBit r = (z.testBit r ^^ c) := fun c z r hz hr => by
    cases c
    · simp
    · simp [not_bit hz hr]
  intro z y hz hy; have hz2 := flip α z hz; have hy2 := flip β y hy
  have hF : Gen ts (putT t fun m => if m = j then (if β then 15 - y else y) else if m = i then (if α then 15 - z else z) else if v m then 15 else 0) :=
    Gen.app t ht _ fun m _ => by
      (show Gen ts (if m = j then (if β then 15 - y else y) else if m = i then (if α then 15 - z else z) else if v m then 15 else 0))
      split
      · exact hy2
      · split
        · exact hz2
        · split
          · exact g1
          · exact g0
  have hR := flip γ _ hF
  have : (z &&& y) = (if γ then 15 - (putT t fun m => if m = j then (if β then 15 - y else y) else if m = i then (if α then 15 - z else z) else if v m then 15 else 0) else (putT t fun m => if m = j then (if β then 15 - y else y) else if m = i then (if α then 15 - z else z) else if v m then 15 else 0)) := by
    (refine bits_ext (n := 4) (Nat.lt_of_le_of_lt Nat.and_le_left hz.lt) hR.lt fun r hr => ?_); rw [flipb γ _ r hF.lt hr, putT_bit t _ hr, Nat.testBit_and, hab (z.testBit r) (y.testBit r)]
    congr 1
    have key : t.at (fun m => (if m = j then (if β then 15 - y else y) else if m = i then (if α then 15 - z else z) else if v m then 15 else 0 : Nat).testBit r) = faceAt t v i j (z.testBit r ^^ α) (y.testBit r ^^ β) := by
      unfold faceAt; (refine t.at_congr fun m _ => ?_); unfold upd; by_cases e1 : m = j
      · rw [if_pos e1, if_pos e1, flipb β y r hy.lt hr]
      · rw [if_neg e1, if_neg e1]
        by_cases e2 : m = i
        · rw [if_pos e2, if_pos e2, flipb α z r hz.lt hr]
        · rw [if_neg e2, if_neg e2, const_bit _ hr]
    rw [key]
    cases z.testBit r ^^ α <;> cases y.testBit r ^^ β <;> rfl
  rw [this]; exact hR

/-- What is in no class makes all. -/
theorem post_yes {ts : List Tb} (hok : ∀ t ∈ ts, t.Ok) (h : ∀ i, i < 5 → allC ts i = false) : ∀ f, f < 16 → Gen ts f := by
  have hC : (Gen ts 0 ∧ Gen ts 15) ∧ ∀ z, Gen ts z → Gen ts (15 - z) := by
    rcases post_first hok (h 0 (by decide)) (h 1 (by decide)) with hn | ⟨g0, g1⟩
    · exact ⟨post_consts hok (h 2 (by decide)) hn, hn⟩
    · exact ⟨⟨g0, g1⟩, post_not hok (h 3 (by decide)) g0 g1⟩
  obtain ⟨⟨g0, g15⟩, hn⟩ := hC; (have ha := post_and hok (h 4 (by decide)) g0 g15 hn); have g10 : Gen ts 10 := Gen.x; have g12 : Gen ts 12 := Gen.y; have g5 : Gen ts 5 := hn 10 g10; have g3 : Gen ts 3 := hn 12 g12; have g8 : Gen ts 8 := ha 10 12 g10 g12; have g2 : Gen ts 2 := ha 10 3 g10 g3; have g4 : Gen ts 4 := ha 5 12 g5 g12; have g1 : Gen ts 1 := ha 5 3 g5 g3; have g7 : Gen ts 7 := hn 8 g8; have g13 : Gen ts 13 := hn 2 g2; have g11 : Gen ts 11 := hn 4 g4; have g14 : Gen ts 14 := hn 1 g1; have g9 : Gen ts 9 := ha 13 11 g13 g11; have g6 : Gen ts 6 := hn 9 g9; intro f hf
  rcases (by omega : f = 0 ∨ f = 1 ∨ f = 2 ∨ f = 3 ∨ f = 4 ∨ f = 5 ∨ f = 6 ∨ f = 7 ∨ f = 8 ∨ f = 9 ∨ f = 10 ∨ f = 11 ∨ f = 12 ∨ f = 13 ∨ f = 14 ∨ f = 15) with rfl | rfl | rfl | rfl | rfl | rfl | rfl | rfl | rfl | rfl | rfl | rfl | rfl | rfl | rfl | rfl <;> assumption

/-- POST'S THEOREM: five classes tell whether all functions of two values are made. -/
theorem post {ts : List Tb} (hok : ∀ t ∈ ts, t.Ok) : compC ts 5 = true ↔ ∀ f, f < 16 → Gen ts f := by
  have hc : compC ts 5 = true ↔ ∀ i, i < 5 → allC ts i = false := by
    simp only [compC, Bool.true_and, Bool.and_eq_true, Bool.not_eq_true']
    constructor
    · rintro ⟨⟨⟨⟨h0, h1⟩, h2⟩, h3⟩, h4⟩ i hi
      rcases (by omega : i = 0 ∨ i = 1 ∨ i = 2 ∨ i = 3 ∨ i = 4) with rfl | rfl | rfl | rfl | rfl <;> assumption
    · exact fun h => ⟨⟨⟨⟨h 0 (by decide), h 1 (by decide)⟩, h 2 (by decide)⟩, h 3 (by decide)⟩, h 4 (by decide)⟩
  rw [hc]
  constructor
  · exact post_yes hok
  · intro hg i hi
    cases h : allC ts i
    · rfl
    · exact absurd hg (post_no hok hi h)
end Go.Proofs.Ytffkoiemnchdgab
