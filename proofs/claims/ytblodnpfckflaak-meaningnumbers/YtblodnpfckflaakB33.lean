/- Texts of one proof, one behind the other: RN1. -/
import Derived.Test.YtblodnpfckflaakB32
/- Plain: what things' numbers are does not matter (the law MeaningNumbers). -/
namespace Go.Proofs.Ytblodnpfckflaak
open Go.RowKit Go.Sort

def shf (N b x : Nat) : Nat := (x + b) % N
/-- The place whose things are shifted. -/
def mvP (N b : Nat) : Nat → Nat → Nat
  | 0, _ => 0
  | a + 1, p => (p % N + b) % N + N * mvP N b a (p / N)
theorem shf_lt {N : Nat} (h : 1 ≤ N) (b x : Nat) : shf N b x < N := Nat.mod_lt _ (by omega)
theorem shf_back {N : Nat} (h : 1 ≤ N) (b : Nat) {x : Nat} (hx : x < N) : (shf N b x + (N - b % N)) % N = x := by
  (have h1 : b % N < N := Nat.mod_lt _ (by omega)); have h2 := Nat.div_add_mod b N; unfold shf; rw [Nat.mod_add_mod]; (have e : x + b + (N - b % N) = x + N * (b / N + 1) := by rw [Nat.mul_add, Nat.mul_one]; omega); rw [e, Nat.add_mul_mod_self_left, Nat.mod_eq_of_lt hx]
theorem shf_inj {N : Nat} (h : 1 ≤ N) (b : Nat) {x y : Nat} (hx : x < N) (hy : y < N) (e : shf N b x = shf N b y) : x = y := by
  rw [← shf_back h b hx, ← shf_back h b hy, e]
theorem shf_onto {N : Nat} (h : 1 ≤ N) (b : Nat) {t : Nat} (ht : t < N) : ∃ u, u < N ∧ shf N b u = t := by
  (have h1 : b % N < N := Nat.mod_lt _ (by omega)); have h2 := Nat.div_add_mod b N; (refine ⟨(t + (N - b % N)) % N, Nat.mod_lt _ (by omega), ?_⟩); unfold shf; rw [Nat.mod_add_mod]; (have e : t + (N - b % N) + b = t + N * (b / N + 1) := by rw [Nat.mul_add, Nat.mul_one]; omega); rw [e, Nat.add_mul_mod_self_left, Nat.mod_eq_of_lt ht]
theorem mvP_cons {N : Nat} (b a : Nat) {x : Nat} (h : x < N) (r : Nat) : mvP N b (a + 1) (x + N * r) = shf N b x + N * mvP N b a r := by
  (rw [mvP, Nat.add_mul_mod_self_left, Nat.mod_eq_of_lt h, Nat.add_mul_div_left _ _ (by omega), Nat.div_eq_of_lt h, Nat.zero_add]); rfl
theorem mvP_lt {N : Nat} (h : 1 ≤ N) (b : Nat) : ∀ (a p : Nat), mvP N b a p < N ^ a
  | 0, p => by rw [mvP]; simp
  | a + 1, p => by
    (have h1 : (p % N + b) % N < N := Nat.mod_lt _ (by omega)); have h2 := mvP_lt h b a (p / N); rw [mvP, Nat.pow_succ]
    calc (p % N + b) % N + N * mvP N b a (p / N) < N + N * mvP N b a (p / N) := by omega
      _ = N * (mvP N b a (p / N) + 1) := by rw [Nat.mul_add, Nat.mul_one, Nat.add_comm]
      _ ≤ N * N ^ a := Nat.mul_le_mul_left _ h2
      _ = N ^ a * N := Nat.mul_comm _ _
theorem mvP_inj {N : Nat} (h : 1 ≤ N) (b : Nat) : ∀ (a p q : Nat), p < N ^ a → q < N ^ a → mvP N b a p = mvP N b a q → p = q
  | 0, p, q, hp, hq, _ => by simp at hp hq; omega
  | a + 1, p, q, hp, hq, e => by
    rw [mvP, mvP] at e; (have k1 : (p % N + b) % N < N := Nat.mod_lt _ (by omega)); (have k2 : (q % N + b) % N < N := Nat.mod_lt _ (by omega))
    have m1 : (p % N + b) % N = (q % N + b) % N := by
      have := congrArg (· % N) e; simp only [Nat.add_mul_mod_self_left] at this
      rwa [Nat.mod_eq_of_lt k1, Nat.mod_eq_of_lt k2] at this
    have m2 : mvP N b a (p / N) = mvP N b a (q / N) := by
      have := congrArg (· / N) e; (simp only [Nat.add_mul_div_left _ _ (show 0 < N by omega)] at this)
      rwa [Nat.div_eq_of_lt k1, Nat.div_eq_of_lt k2, Nat.zero_add, Nat.zero_add] at this
    rw [Nat.pow_succ] at hp hq; (have d1 : p / N < N ^ a := Nat.div_lt_of_lt_mul (by rw [Nat.mul_comm]; exact hp)); (have d2 : q / N < N ^ a := Nat.div_lt_of_lt_mul (by rw [Nat.mul_comm]; exact hq)); have e2 := mvP_inj h b a _ _ d1 d2 m2; (have e1 : p % N = q % N := shf_inj h b (Nat.mod_lt _ (by omega)) (Nat.mod_lt _ (by omega)) m1); rw [← Nat.div_add_mod p N, ← Nat.div_add_mod q N, e1, e2]
theorem any_shf {N : Nat} (h : 1 ≤ N) (b : Nat) {p q : Nat → Bool} (e : ∀ u, u < N → p (shf N b u) = q u) : (List.range N).any p = (List.range N).any q := by
  rw [Bool.eq_iff_iff]; simp only [List.any_eq_true, List.mem_range]
  constructor
  · rintro ⟨t, ht, h1⟩
    obtain ⟨u, hu, rfl⟩ := shf_onto h b ht; (exact ⟨u, hu, by rw [← e u hu]; exact h1⟩)
  · rintro ⟨u, hu, h1⟩
    (exact ⟨shf N b u, shf_lt h b u, by rw [e u hu]; exact h1⟩)
/-- A function whose things are shifted; a predicate. -/
def FnT (N b : Nat) (f g : FnD) : Prop := g.nm = f.nm ∧ g.ar = f.ar ∧ g.tab.length = f.tab.length ∧ (∀ y ∈ g.tab, thingB N y = true) ∧ ∀ (k : Nat) (x : Int), f.tab[k]? = some x → g.tab[mvP N b f.ar.toNat k]? = some ((x + (b : Int)) % (N : Int))
def PdT (N b : Nat) (f g : PdD) : Prop := g.nm = f.nm ∧ g.ar = f.ar ∧ g.bits.length = f.bits.length ∧ ∀ (k : Nat) (x : Bool), f.bits[k]? = some x → g.bits[mvP N b f.ar.toNat k]? = some x
/-- A view whose things are shifted. -/
structure VwT (N b : Nat) (V V' : VwD) : Prop where
  n : V.n = N
  n' : V'.n = N
  f0 : ∀ t, V.fn t = none → V'.fn t = none
  f1 : ∀ t f, V.fn t = some f → ∃ g, V'.fn t = some g ∧ FnT N b f g
  p0 : ∀ t, V.pd t = none → V'.pd t = none
  p1 : ∀ t f, V.pd t = some f → ∃ g, V'.pd t = some g ∧ PdT N b f g
theorem int_shf {N b : Nat} {x : Int} (hx : 0 ≤ x) : ((x + (b : Int)) % (N : Int)).toNat = shf N b x.toNat := by
  obtain ⟨n, rfl⟩ := Int.eq_ofNat_of_zero_le hx; unfold shf; rw [Int.toNat_natCast]; (have e : (((n : Nat) : Int) + (b : Int)) % (N : Int) = (((n + b) % N : Nat) : Int) := by push_cast; rfl); rw [e, Int.toNat_natCast]
section
variable {N b : Nat} {V V' : VwD}
mutual
theorem wv_rn (hT : VwT N b V V') (hV : VOk V) {va va' : List UInt8 → Nat} (hva : ∀ s, va s < N) : ∀ x : Wd, WMn V x → (∀ y ∈ prW x, V.fn y.nm = none → va' y.nm = shf N b (va y.nm)) → wv V' va' x = shf N b (wv V va x)
  | .mk nm ar, hm, h => by
    rw [WMn] at hm; rw [wv, wv]
    rcases hf : V.fn nm.data.toList with _ | f
    · rw [hT.f0 _ hf]
      (exact h (.mk nm ar) (by rw [prW]; simp) hf)
    · obtain ⟨h1, h2⟩ := hm f hf
      obtain ⟨g, hg, e1, e2, e3, e4, e5⟩ := hT.f1 _ f hf; rw [hg]
      dsimp only
      have hN := hV.n1; rw [hT.n] at hN; (have hp := wpl_rn hT hV hva ar h2 fun y hy => h y (by rw [prW]; simp [hy])); obtain ⟨g1, g2, g3, g4⟩ := hV.fn _ f hf; (have hl := wpl_lt hV (va := va) (fun s => by rw [hT.n]; exact hva s) ar h2); (have e : f.ar.toNat = ar.length := by omega)
      have hlen : f.tab.length = V.n ^ ar.length := by
        rw [e] at g3
        exact_mod_cast g3
      (have hi : wpl V va ar < f.tab.length := by omega); have hx := e5 _ _ (List.getElem?_eq_getElem hi); rw [e, ← hp] at hx; rw [List.getD_eq_getElem?_getD, List.getD_eq_getElem?_getD, hx, List.getElem?_eq_getElem hi, Option.getD_some, Option.getD_some]; exact int_shf (g4 _ (List.getElem_mem hi)).1
theorem wpl_rn (hT : VwT N b V V') (hV : VOk V) {va va' : List UInt8 → Nat} (hva : ∀ s, va s < N) : ∀ l : List Wd, WMns V l → (∀ y ∈ prWs l, V.fn y.nm = none → va' y.nm = shf N b (va y.nm)) → wpl V' va' l = mvP N b l.length (wpl V va l)
  | [], _, _ => by rw [wpl, wpl]; rfl
  | x :: xs, hm, h => by
    rw [WMns] at hm; (have h1 := wv_rn hT hV hva x hm.1 fun y hy => h y (by rw [prWs]; simp [hy])); (have h2 := wpl_rn hT hV hva xs hm.2 fun y hy => h y (by rw [prWs]; simp [hy])); (have h3 := wv_lt hV (va := va) (fun s => by rw [hT.n]; exact hva s) x hm.1); (rw [wpl, wpl, List.length_cons, hT.n, hT.n', mvP_cons b _ (by rw [← hT.n]; exact h3), h1, h2])
end
end
theorem fre_cons (p : Ex × Bd) (l : List (Ex × Bd)) : fre (p :: l) = freP p ++ fre l := rfl
theorem mem_bdIn {bd : Bd} {k : Int} {n : ByteArray} {t : List UInt8} (h : t ∈ bdIn bd k n) : t ∈ bd ∨ (quanB k = true ∧ t = n.data.toList) := by
  unfold bdIn at h
  split at h
  · rename_i hq
    rcases List.mem_append.1 h with h | h
    · exact Or.inl h
    · exact Or.inr ⟨hq, by simpa using h⟩
  · exact Or.inl h
/-- What is asked of names that mean no function: they are variables. -/
def VarsB (V : VwD) (l : List (Ex × Bd)) : Prop := ∀ p ∈ l, ∀ y ∈ prWs (exWs p.1), V.fn y.nm = none → isNm y.nm = true
theorem evN_rn {N b : Nat} {V V' : VwD} (hT : VwT N b V V') (hV : VOk V) {k : Int} {n : ByteArray} {ws : List Wd} {fs gs : List ((List UInt8 → Nat) → Bool)} {va va' : List UInt8 → Nat} (hva : ∀ s, va s < N) (hm1 : k = 1 → ∃ p, V.pd n.data.toList = some p ∧ p.ar = (ws.length : Int)) (hm2 : k = 2 → ws.length = 2) (hms : WMns V ws) (hw : ∀ y ∈ prWs ws, V.fn y.nm = none → va' y.nm = shf N b (va y.nm)) (hq : quanB k = false → ∀ i, kidF gs i va' = kidF fs i va) (hq2 : quanB k = true → ∀ t, t < N → ∀ i, kidF gs i (vset va' n.data.toList (shf N b t)) = kidF fs i (vset va n.data.toList t)) :
    evN V' k n.data.toList ws gs va' = evN V k n.data.toList ws fs va := by
  (have hN : 1 ≤ N := by rw [← hT.n]; exact hV.n1); (have hva2 : ∀ s, va s < V.n := fun s => by rw [hT.n]; exact hva s); unfold evN
  split
  · rename_i h1
    obtain ⟨p, hp, har⟩ := hm1 h1; obtain ⟨g, hg, e1, e2, e3, e4⟩ := hT.p1 _ p hp; rw [hp, hg]
    dsimp only
    have hpl := wpl_rn hT hV hva ws hms hw; obtain ⟨g1, g2, g3⟩ := hV.pd _ p hp; have hl := wpl_lt hV hva2 ws hms; (have e : p.ar.toNat = ws.length := by omega)
    have hlen : p.bits.length = V.n ^ ws.length := by
      rw [e] at g3
      exact_mod_cast g3
    (have hi : wpl V va ws < p.bits.length := by omega); have hx := e4 _ _ (List.getElem?_eq_getElem hi); rw [e, ← hpl] at hx; rw [List.getD_eq_getElem?_getD, List.getD_eq_getElem?_getD, hx, List.getElem?_eq_getElem hi]
  · split
    · rename_i h2
      have hl := hm2 h2
      match ws, hl with
      | [x, y], _ =>
        rw [WMns, WMns] at hms; (have a1 := wv_rn hT hV hva x hms.1 fun z hz => hw z (by rw [prWs]; simp [hz])); (have a2 := wv_rn hT hV hva y hms.2.1 fun z hz => hw z (by rw [prWs, prWs]; simp [hz])); have b1 := wv_lt hV hva2 x hms.1; have b2 := wv_lt hV hva2 y hms.2.1; rw [hT.n] at b1 b2
        dsimp only
        rw [a1, a2, Bool.eq_iff_iff, beq_iff_eq, beq_iff_eq]; (exact ⟨shf_inj hN b b1 b2, fun e => by rw [e]⟩)
    · split
      · rfl
      · have hk : k = 5 ∨ k = 6 ∨ k = 7 ∨ k = 8 → quanB k = false := by
          intro h
          rcases h with rfl | rfl | rfl | rfl <;> decide
        split
        · rename_i h5
          rw [hq (hk (Or.inl h5))]
        · split
          · rename_i h6
            rw [hq (hk (Or.inr (Or.inl h6))), hq (hk (Or.inr (Or.inl h6)))]
          · split
            · rename_i h7
              rw [hq (hk (Or.inr (Or.inr (Or.inl h7)))), hq (hk (Or.inr (Or.inr (Or.inl h7))))]
            · split
              · rename_i h8
                rw [hq (hk (Or.inr (Or.inr (Or.inr h8)))), hq (hk (Or.inr (Or.inr (Or.inr h8))))]
              · split
                · rename_i h9
                  (have hqk : quanB k = true := by subst h9; decide); (rw [hT.n, hT.n', any_shf hN b (q := fun t => !(kidF fs 0 (vset va n.data.toList t))) fun u hu => by rw [hq2 hqk u hu]])
                · split
                  · rename_i h10
                    (have hqk : quanB k = true := by subst h10; decide); (rw [hT.n, hT.n', any_shf hN b (q := fun t => kidF fs 0 (vset va n.data.toList t)) fun u hu => by rw [hq2 hqk u hu]])
                  · rfl
section
variable {N b : Nat} {V V' : VwD}
mutual
theorem ev_rn (hT : VwT N b V V') (hV : VOk V) : ∀ (bd : Bd) (x : Ex) (va va' : List UInt8 → Nat), EMn V x → VarsB V (prE bd x) → (∀ s, va s < N) → (∀ t ∈ bd, va' t = shf N b (va t)) → (∀ t ∈ fre (prE bd x), va' t = shf N b (va t)) → ev V' x va' = ev V x va
  | bd, .mk k n ws ks, va, va', hm, hB, hva, h1, h2 => by
    rw [EMn] at hm; obtain ⟨m1, m2, m3, m4, m5, m6⟩ := hm; rw [prE] at hB h2; rw [fre_cons] at h2; (have hBk : VarsB V (prEs (bdIn bd k n) ks) := fun p hp => hB p (List.mem_cons_of_mem _ hp)); rw [ev, ev]; (refine evN_rn hT hV hva m1 m2 m5 (fun y hy hf => ?_) (fun hq i => ?_) (fun hq t ht i => ?_))
    · have hn := hB _ (List.mem_cons_self ..) y hy hf
      by_cases hb : y.nm ∈ bd
      · exact h1 _ hb
      · refine h2 _ (List.mem_append.2 (Or.inl ?_))
        unfold freP vrs; rw [List.mem_filter, List.mem_filter]; (exact ⟨⟨List.mem_map.2 ⟨y, hy, rfl⟩, hn⟩, by simp [hb]⟩)
    · refine evs_rn hT hV (bdIn bd k n) ks va va' m6 hBk hva (fun t ht => ?_) (fun t ht => h2 t (List.mem_append.2 (Or.inr ht))) i
      rcases mem_bdIn ht with h | ⟨h, -⟩
      · exact h1 t h
      · rw [hq] at h; cases h
    · have hN : 1 ≤ N := by rw [← hT.n]; exact hV.n1
      have hset : ∀ s, (s = n.data.toList ∨ va' s = shf N b (va s)) → vset va' n.data.toList (shf N b t) s = shf N b (vset va n.data.toList t s) := by
        intro s hs; unfold vset
        split
        · rfl
        · rename_i hne
          rcases hs with h | h
          · exact absurd h hne
          · exact h
      (refine evs_rn hT hV (bdIn bd k n) ks _ _ m6 hBk (vset_lt hva ht _) (fun s hs => hset s ?_) (fun s hs => hset s ?_) i)
      · rcases mem_bdIn hs with h | ⟨-, h⟩
        · exact Or.inr (h1 s h)
        · exact Or.inl h
      · exact Or.inr (h2 s (List.mem_append.2 (Or.inr hs)))
theorem evs_rn (hT : VwT N b V V') (hV : VOk V) : ∀ (bd : Bd) (l : List Ex) (va va' : List UInt8 → Nat), EMns V l → VarsB V (prEs bd l) → (∀ s, va s < N) → (∀ t ∈ bd, va' t = shf N b (va t)) → (∀ t ∈ fre (prEs bd l), va' t = shf N b (va t)) → ∀ i, kidF (evs V' l) i va' = kidF (evs V l) i va
  | bd, [], va, va', _, _, _, _, _, i => by rw [evs, evs]; simp [kidF]
  | bd, x :: xs, va, va', hm, hB, hva, h1, h2, i => by
    rw [EMns] at hm; rw [prEs] at hB h2; rw [fre_app] at h2; rw [evs, evs]
    match i with
    | 0 => exact ev_rn hT hV bd x va va' hm.1 (fun p hp => hB p (List.mem_append.2 (Or.inl hp))) hva h1 fun t ht => h2 t (List.mem_append.2 (Or.inl ht))
    | i + 1 => exact evs_rn hT hV bd xs va va' hm.2 (fun p hp => hB p (List.mem_append.2 (Or.inr hp))) hva h1 (fun t ht => h2 t (List.mem_append.2 (Or.inr ht))) i
end
end
mutual
/-- Each word's name is a variable's or a big one. -/
theorem wchk_nm : ∀ (x : Wd) (s : Nat) (p f : PlF) (s' : Nat) (p' f' : PlF), wchk x s p f = .ok s' p' f' → ∀ y ∈ prW x, isNm y.nm = true ∨ isBg y.nm = true
  | .mk n ar, s, p, f, s', p', f', h => by
    rw [wchk] at h
    split at h
    · cases h
    · split at h
      · cases h
      · rename_i h2
        have hn : isNm n.data.toList = true ∨ isBg n.data.toList = true := by
          unfold wnodeF at h2
          split at h2
          · cases h2
          · rename_i h3
            rcases e1 : isNm n.data.toList with _ | _
            · rcases e2 : isBg n.data.toList with _ | _
              · exact absurd ⟨e1, e2⟩ h3
              · exact Or.inr rfl
            · exact Or.inl rfl
        intro y hy; rw [prW] at hy
        rcases List.mem_cons.1 hy with rfl | hy
        · exact hn
        · split at h
          · split at h
            · cases h
            · exact wchks_nm ar _ _ _ _ _ _ h y hy
          · exact wchks_nm ar _ _ _ _ _ _ h y hy
theorem wchks_nm : ∀ (l : List Wd) (s : Nat) (p f : PlF) (s' : Nat) (p' f' : PlF), wchks l s p f = .ok s' p' f' → ∀ y ∈ prWs l, isNm y.nm = true ∨ isBg y.nm = true
  | [], _, _, _, _, _, _, _ => by intro y hy; rw [prWs] at hy; cases hy
  | x :: xs, s, p, f, s', p', f', h => by
    rw [wchks] at h
    split at h
    · cases h
    · rename_i s1 p1 f1 h1
      intro y hy; rw [prWs] at hy
      rcases List.mem_append.1 hy with hy | hy
      · exact wchk_nm x _ _ _ _ _ _ h1 y hy
      · exact wchks_nm xs _ _ _ _ _ _ h y hy
end
mutual
theorem echk_nm : ∀ (x : Ex) (s : Nat) (p f : PlF) (s' : Nat) (p' f' : PlF) (bd : Bd), echk x s p f = .ok s' p' f' → ∀ q ∈ prE bd x, ∀ y ∈ prWs (exWs q.1), isNm y.nm = true ∨ isBg y.nm = true
  | .mk k n ws ks, s, p, f, s', p', f', bd, h => by
    rw [echk] at h
    split at h
    · cases h
    · split at h
      · cases h
      · split at h
        · cases h
        · split at h
          · cases h
          · rename_i s1 p1 f1 h1
            intro q hq y hy; rw [prE] at hq
            rcases List.mem_cons.1 hq with rfl | hq
            · exact wchks_nm ws _ _ _ _ _ _ h1 y hy
            · exact echks_nm ks _ _ _ _ _ _ (bdIn bd k n) h q hq y hy
theorem echks_nm : ∀ (l : List Ex) (s : Nat) (p f : PlF) (s' : Nat) (p' f' : PlF) (bd : Bd), echks l s p f = .ok s' p' f' → ∀ q ∈ prEs bd l, ∀ y ∈ prWs (exWs q.1), isNm y.nm = true ∨ isBg y.nm = true
  | [], _, _, _, _, _, _, _, _ => by intro q hq; rw [prEs] at hq; cases hq
  | x :: xs, s, p, f, s', p', f', bd, h => by
    rw [echks] at h
    split at h
    · cases h
    · rename_i s1 p1 f1 h1
      intro q hq; rw [prEs] at hq
      rcases List.mem_append.1 hq with hq | hq
      · exact echk_nm x _ _ _ _ _ _ bd h1 q hq
      · exact echks_nm xs _ _ _ _ _ _ bd h q hq
end
theorem bgWl_mem : ∀ {l : List Wd} {y : Wd}, y ∈ l → isBg y.nm = true → ∃ b ∈ bgWl l, b.1.data.toList = y.nm ∧ b.2.1 = false
  | .mk n ar :: l, y, h, hb => by
    rw [bgWl]
    rcases List.mem_cons.1 h with rfl | h
    · have e : isBg n.data.toList = true := hb
      (exact ⟨(n, false, ar.length), List.mem_append.2 (Or.inl (by rw [if_pos e]; simp)), rfl, rfl⟩)
    · obtain ⟨c, h1, h2⟩ := bgWl_mem h hb
      exact ⟨c, List.mem_append.2 (Or.inr h1), h2⟩
theorem bgEl_mem : ∀ {l : List (Ex × Bd)} {p : Ex × Bd}, p ∈ l → ∀ c ∈ bgE p.1, c ∈ bgEl l
  | q :: l, p, h, c, hc => by
    rw [bgEl]
    rcases List.mem_cons.1 h with rfl | h
    · exact List.mem_append.2 (Or.inl hc)
    · exact List.mem_append.2 (Or.inr (bgEl_mem h c hc))
theorem vars_of {V : VwD} {l : List (Ex × Bd)} (h1 : ∀ c ∈ bgEl l, okN V c = true) (h2 : ∀ q ∈ l, ∀ y ∈ prWs (exWs q.1), isNm y.nm = true ∨ isBg y.nm = true) : VarsB V l := by
  intro p hp y hy hf
  rcases h2 p hp y hy with h | h
  · exact h
  · obtain ⟨c, hc, e1, e2⟩ := bgWl_mem hy h
    have hce : c ∈ bgE p.1 := by
      obtain ⟨⟨k, n, ws, ks⟩, bd⟩ := p; rw [bgE]; exact List.mem_append.2 (Or.inr hc)
    have := h1 c (bgEl_mem hp c hce); unfold okN at this; rw [e2, e1, hf] at this; simp at this
end Go.Proofs.Ytblodnpfckflaak
