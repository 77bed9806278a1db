/- Texts of one proof, one behind the other: MP1, MP2, FT1, FT6. -/
import Derived.Test.YtheiikkeelbjnajGreatB28
import Derived.Test.YtheiikkeelbjnajGreatB23
import Derived.Test.YtheiikkeelbjnajGreatB14
/- Plain: the substitution lemma: what an expression with a word put for a variable is in a structure. -/
namespace Go.Proofs.YtheiikkeelbjnajGreat
open Go.RowKit Go.Sort Go.Maps Go.WideMaps

mutual
/-- A name stands in a word. -/
def FrW (t : List UInt8) : Wd → Prop
  | .mk n ar => n.data.toList = t ∨ FrWs t ar
def FrWs (t : List UInt8) : List Wd → Prop
  | [] => False
  | x :: l => FrW t x ∨ FrWs t l
end
mutual
/-- A name stands free in an expression's words. -/
def FrE (t : List UInt8) : Ex → Prop
  | .mk k n ws ks => FrWs t ws ∨ ((quanB k = true → n.data.toList ≠ t) ∧ FrEs t ks)
def FrEs (t : List UInt8) : List Ex → Prop
  | [] => False
  | x :: l => FrE t x ∨ FrEs t l
end
/-- What binds are: of the word, or of names kept, or of new ones. -/
def BInv (tk : List (List UInt8)) (nm : ByteArray) (y : Wd) (k : Nat) (bs : List BT) : Prop := ∀ t ∈ bs, isNm t.1.data.toList = true ∧ ((gY y t = y ∧ t.1 = nm) ∨ gY y t = .mk t.1 [] ∨ ∃ j, j < k ∧ gY y t = .mk ⟨(nthS j).toArray⟩ [] ∧ nthS j ∉ tk)
theorem BInv.mono {tk : List (List UInt8)} {nm : ByteArray} {y : Wd} {k k' : Nat} {bs : List BT} (h : BInv tk nm y k bs) (hk : k ≤ k') : BInv tk nm y k' bs := fun t ht => by
  obtain ⟨h1, h2 | h2 | ⟨j, h2, h3⟩⟩ := h t ht
  · exact ⟨h1, Or.inl h2⟩
  · exact ⟨h1, Or.inr (Or.inl h2)⟩
  · exact ⟨h1, Or.inr (Or.inr ⟨j, by omega, h3⟩)⟩
theorem lastB_mem {bs : List BT} {g : BT → Wd} {n : ByteArray} {y : Wd} (h : lastB bs g n = some y) : ∃ t ∈ bs, t.1 = n ∧ g t = y := by
  unfold lastB at h; obtain ⟨t, h1, h2⟩ := Option.map_eq_some_iff.1 h; (exact ⟨t, List.mem_reverse.1 (List.mem_of_find?_eq_some h1), by simpa using List.find?_some h1, h2⟩)
/-- The names are a word's or a big name. -/
def NmOk (n : ByteArray) : Prop := isNm n.data.toList = true ∨ isBg n.data.toList = true
mutual
def WNm : Wd → Prop
  | .mk n ar => NmOk n ∧ WNms ar
def WNms : List Wd → Prop
  | [] => True
  | x :: l => WNm x ∧ WNms l
end
mutual
/-- The names of the words are names; bound ones are variables. -/
def ENm : Ex → Prop
  | .mk k n ws ks => WNms ws ∧ (quanB k = true → isNm n.data.toList = true) ∧ ENms ks
def ENms : List Ex → Prop
  | [] => True
  | x :: l => ENm x ∧ ENms l
end
mutual
theorem wchk_names : ∀ (x : Wd) (s : Nat) (p f : PlF) (s' : Nat) (p' f' : PlF), wchk x s p f = .ok s' p' f' → WNm x
  | .mk n ar, s, p, f, s', p', f', h => by
    rw [wchk] at h
    split at h
    · cases h
    · split at h
      · cases h
      · rename_i h1
        have hn : NmOk n := by
          unfold wnodeF at h1
          split at h1
          · cases h1
          · rename_i h2
            rcases ha : isNm n.data.toList with _ | _
            · rcases hb : isBg n.data.toList with _ | _
              · exact absurd ⟨ha, hb⟩ h2
              · exact Or.inr hb
            · exact Or.inl ha
        rw [WNm]
        split at h
        · split at h
          · cases h
          · exact ⟨hn, wchks_names ar _ _ _ _ _ _ h⟩
        · exact ⟨hn, wchks_names ar _ _ _ _ _ _ h⟩
theorem wchks_names : ∀ (l : List Wd) (s : Nat) (p f : PlF) (s' : Nat) (p' f' : PlF), wchks l s p f = .ok s' p' f' → WNms l
  | [], _, _, _, _, _, _, _ => by rw [WNms]; trivial
  | x :: xs, s, p, f, s', p', f', h => by
    rw [wchks] at h
    split at h
    · cases h
    · rename_i h1
      rw [WNms]; exact ⟨wchk_names x _ _ _ _ _ _ h1, wchks_names xs _ _ _ _ _ _ h⟩
end
mutual
theorem echk_names : ∀ (x : Ex) (s : Nat) (p f : PlF) (s' : Nat) (p' f' : PlF), echk x s p f = .ok s' p' f' → ENm x
  | .mk k n ws ks, s, p, f, s', p', f', h => by
    rw [echk] at h
    split at h
    · cases h
    · split at h
      · cases h
      · rename_i hn
        split at h
        · cases h
        · split at h
          · cases h
          · rename_i h2
            rw [ENm]; (refine ⟨wchks_names ws _ _ _ _ _ _ h2, fun hq => ?_, echks_names ks _ _ _ _ _ _ h⟩); obtain ⟨-, -, -, h4⟩ := enode_kids hn; unfold enameB at h4; (rw [if_neg (fun e => by rw [e] at hq; exact absurd hq (by decide)), if_pos hq] at h4); exact h4
theorem echks_names : ∀ (l : List Ex) (s : Nat) (p f : PlF) (s' : Nat) (p' f' : PlF), echks l s p f = .ok s' p' f' → ENms l
  | [], _, _, _, _, _, _, _ => by rw [ENms]; trivial
  | x :: xs, s, p, f, s', p', f', h => by
    rw [echks] at h
    split at h
    · cases h
    · rename_i h1
      rw [ENms]; exact ⟨echk_names x _ _ _ _ _ _ h1, echks_names xs _ _ _ _ _ _ h⟩
end
mutual
theorem frW_nm {t : List UInt8} : ∀ x : Wd, WNm x → FrW t x → isNm t = true ∨ isBg t = true
  | .mk n ar, h, hf => by
    rw [WNm] at h; rw [FrW] at hf
    rcases hf with rfl | hf
    · exact h.1
    · exact frWs_nm ar h.2 hf
theorem frWs_nm {t : List UInt8} : ∀ l : List Wd, WNms l → FrWs t l → isNm t = true ∨ isBg t = true
  | [], _, hf => by rw [FrWs] at hf; exact hf.elim
  | x :: l, h, hf => by
    rw [WNms] at h; rw [FrWs] at hf
    rcases hf with hf | hf
    · exact frW_nm x h.1 hf
    · exact frWs_nm l h.2 hf
end
mutual
theorem frE_nm {t : List UInt8} : ∀ x : Ex, ENm x → FrE t x → isNm t = true ∨ isBg t = true
  | .mk k n ws ks, h, hf => by
    rw [ENm] at h; rw [FrE] at hf
    rcases hf with hf | hf
    · exact frWs_nm ws h.1 hf
    · exact frEs_nm ks h.2.2 hf.2
theorem frEs_nm {t : List UInt8} : ∀ l : List Ex, ENms l → FrEs t l → isNm t = true ∨ isBg t = true
  | [], _, hf => by rw [FrEs] at hf; exact hf.elim
  | x :: l, h, hf => by
    rw [ENms] at h; rw [FrEs] at hf
    rcases hf with hf | hf
    · exact frE_nm x h.1 hf
    · exact frEs_nm l h.2 hf
end
mutual
theorem frW_vrs {t : List UInt8} (ht : isNm t = true) : ∀ x : Wd, FrW t x ↔ t ∈ vrs (prW x)
  | .mk n ar => by
    rw [FrW, prW, show Wd.mk n ar :: prWs ar = [Wd.mk n ar] ++ prWs ar from rfl, vrs_app, List.mem_append, ← frWs_vrs ht ar]; refine or_congr ?_ Iff.rfl; show _ ↔ t ∈ ([n.data.toList].filter isNm); rw [List.mem_filter, List.mem_singleton]; (exact ⟨fun e => ⟨e.symm, ht⟩, fun e => e.1.symm⟩)
theorem frWs_vrs {t : List UInt8} (ht : isNm t = true) : ∀ l : List Wd, FrWs t l ↔ t ∈ vrs (prWs l)
  | [] => by rw [FrWs, prWs]; show _ ↔ t ∈ []; simp
  | x :: l => by rw [FrWs, prWs, vrs_app, List.mem_append, ← frWs_vrs ht l, ← frW_vrs ht x]
end
theorem vrs_nm {t : List UInt8} {l : List Wd} (h : t ∈ vrs l) : isNm t = true := (List.mem_filter.1 h).2
mutual
theorem frE_fre {t : List UInt8} : ∀ (bd : Bd) (x : Ex), t ∈ fre (prE bd x) ↔ isNm t = true ∧ t ∉ bd ∧ FrE t x
  | bd, .mk k n ws ks => by
    rw [prE, fre, List.mem_append, frEs_fre (bdIn bd k n) ks, FrE]
    have h1 : t ∈ freP (Ex.mk k n ws ks, bd) ↔ isNm t = true ∧ t ∉ bd ∧ FrWs t ws := by
      unfold freP; rw [List.mem_filter]; show t ∈ vrs (prWs ws) ∧ _ ↔ _
      constructor
      · rintro ⟨h1, h2⟩
        (exact ⟨vrs_nm h1, by simpa using h2, (frWs_vrs (vrs_nm h1) ws).2 h1⟩)
      · rintro ⟨h1, h2, h3⟩
        (exact ⟨(frWs_vrs h1 ws).1 h3, by simpa using h2⟩)
    rw [h1]; unfold bdIn
    rcases hq : quanB k with _ | _
    · simp only [Bool.false_eq_true, if_false, false_implies, true_and]
      constructor
      · rintro (⟨a, b, c⟩ | ⟨a, b, c⟩)
        · exact ⟨a, b, Or.inl c⟩
        · exact ⟨a, b, Or.inr c⟩
      · rintro ⟨a, b, c | c⟩
        · exact Or.inl ⟨a, b, c⟩
        · exact Or.inr ⟨a, b, c⟩
    · simp only [if_true, true_implies, List.mem_append, List.mem_singleton, not_or]
      constructor
      · rintro (⟨a, b, c⟩ | ⟨a, b, c⟩)
        · exact ⟨a, b, Or.inl c⟩
        · exact ⟨a, b.1, Or.inr ⟨fun e => b.2 e.symm, c⟩⟩
      · rintro ⟨a, b, c | c⟩
        · exact Or.inl ⟨a, b, c⟩
        · exact Or.inr ⟨a, ⟨b, fun e => c.1 e.symm⟩, c.2⟩
theorem frEs_fre {t : List UInt8} : ∀ (bd : Bd) (l : List Ex), t ∈ fre (prEs bd l) ↔ isNm t = true ∧ t ∉ bd ∧ FrEs t l
  | bd, [] => by rw [prEs, fre, FrEs]; simp
  | bd, x :: l => by
    rw [prEs, fre_app, List.mem_append, frE_fre bd x, frEs_fre bd l, FrEs]
    constructor
    · rintro (⟨a, b, c⟩ | ⟨a, b, c⟩)
      · exact ⟨a, b, Or.inl c⟩
      · exact ⟨a, b, Or.inr c⟩
    · rintro ⟨a, b, c | c⟩
      · exact Or.inl ⟨a, b, c⟩
      · exact Or.inr ⟨a, b, c⟩
end
mutual
theorem frE_avs {t : List UInt8} (ht : isNm t = true) : ∀ (bd : Bd) (x : Ex), FrE t x → t ∈ avs (prE bd x)
  | bd, .mk k n ws ks, h => by
    rw [FrE] at h; rw [prE, avs, List.mem_append]
    rcases h with h | h
    · refine Or.inl ?_
      unfold avP; exact List.mem_append.2 (Or.inl ((frWs_vrs ht ws).1 h))
    · exact Or.inr (frEs_avs ht _ ks h.2)
theorem frEs_avs {t : List UInt8} (ht : isNm t = true) : ∀ (bd : Bd) (l : List Ex), FrEs t l → t ∈ avs (prEs bd l)
  | _, [], h => by rw [FrEs] at h; exact h.elim
  | bd, x :: l, h => by
    rw [FrEs] at h; rw [prEs, avs_app, List.mem_append]
    rcases h with h | h
    · exact Or.inl (frE_avs ht bd x h)
    · exact Or.inr (frEs_avs ht bd l h)
end
mutual
/-- What stands in an expression does not hang on what is bound around it. -/
theorem avs_bd : ∀ (bd bd' : Bd) (x : Ex), avs (prE bd x) = avs (prE bd' x)
  | bd, bd', .mk k n ws ks => by
    rw [prE, prE, avs, avs, avss_bd (bdIn bd k n) (bdIn bd' k n) ks]; rfl
theorem avss_bd : ∀ (bd bd' : Bd) (l : List Ex), avs (prEs bd l) = avs (prEs bd' l)
  | _, _, [] => by rw [prEs, prEs]
  | bd, bd', x :: l => by rw [prEs, prEs, avs_app, avs_app, avs_bd bd bd' x, avss_bd bd bd' l]
end
end Go.Proofs.YtheiikkeelbjnajGreat
/- Plain: the substitution lemma, for what first.putter.expr answers. -/
namespace Go.Proofs.YtheiikkeelbjnajGreat
open Go.RowKit Go.Sort Go.Maps Go.WideMaps

theorem bnF_ge (nm : ByteArray) (cg tk : List (List UInt8)) (k : Nat) (x : Ex) (n : ByteArray) : k ≤ (bnF nm cg tk k x n).2 := by
  unfold bnF
  split
  · have := (nxF_ge [] tk (tk.length + 1) k).1
    show k ≤ _ + 1; omega
  · exact Nat.le_refl _
mutual
theorem pxF_ge (nm : ByteArray) (y : Wd) (cg tk : List (List UInt8)) : ∀ (x : Ex) (bs : List BT) (k : Nat), k ≤ (pxF nm y cg tk x bs k).2
  | .mk kd n ws ks, bs, k => by
    rw [pxF]
    split
    · exact Nat.le_trans (bnF_ge nm cg tk k _ n) (pxFs_ge nm y cg tk ks _ _)
    · exact pxFs_ge nm y cg tk ks bs k
theorem pxFs_ge (nm : ByteArray) (y : Wd) (cg tk : List (List UInt8)) : ∀ (l : List Ex) (bs : List BT) (k : Nat), k ≤ (pxFs nm y cg tk l bs k).2
  | [], bs, k => by rw [pxFs]; exact Nat.le_refl _
  | x :: l, bs, k => by
    rw [pxFs]; exact Nat.le_trans (pxF_ge nm y cg tk x bs k) (pxFs_ge nm y cg tk l bs _)
end
theorem low_nthS : ∀ (n : Nat), ∃ c l, nthS n = c :: l ∧ 97 ≤ c.toNat ∧ c.toNat ≤ 122 := fun n => by
  have h1 := (nthS_len (n + 1) n (Nat.lt_succ_self n)).2
  rcases h : nthS n with _ | ⟨c, l⟩
  · rw [h] at h1; simp at h1
  · exact ⟨c, l, rfl, nthS_let (n + 1) n (Nat.lt_succ_self n) c (by rw [h]; exact List.mem_cons_self ..)⟩
theorem nthS_noBg (n : Nat) : isBg (nthS n) = false := by
  obtain ⟨c, l, h, h1, h2⟩ := low_nthS n; rw [h]
  rcases hb : isBg (c :: l) with _ | _
  · rfl
  · unfold isBg capB at hb
    simp only [Bool.and_eq_true, decide_eq_true_eq] at hb; omega
theorem nm_noBg {t : List UInt8} (h : isNm t = true) : isBg t = false := by
  rcases t with _ | ⟨c, l⟩
  · rfl
  · rcases hb : isBg (c :: l) with _ | _
    · rfl
    · unfold isBg capB at hb
      simp only [Bool.and_eq_true, decide_eq_true_eq] at hb; unfold isNm letters lower at h; (rw [if_neg (by simp; omega)] at h); simp at h
theorem gY_new (y : Wd) (a n : ByteArray) : gY y (a, n, .slice none 0 0) = .mk n [] := rfl
/-- A step of the substitution lemma: the bound variable's own name. -/
theorem bn_step {nm : ByteArray} {y : Wd} {cg tk : List (List UInt8)} {k : Nat} {bs : List BT} {kd : Int} {n : ByteArray} {ws : List Wd} {ks : List Ex} (hI : BInv tk nm y k bs) (hq : quanB kd = true) (hy : WNm y) (hcg : ∀ t, isNm t = true → FrW t y → t ∈ cg ∧ t ∈ tk) (hx : ENm (.mk kd n ws ks)) (hnm : isNm nm.data.toList = true) (htk : ∀ t ∈ avs (prE [] (.mk kd n ws ks)), t ∈ tk)
    (p : ByteArray × Nat) (hp : bnF nm cg tk k (.mk kd n ws ks) n = p) :
    BInv tk nm y p.2 (bs ++ [(n, p.1, .slice none 0 0)]) ∧ isBg p.1.data.toList = false ∧
    (∀ t : ByteArray, FrEs t.data.toList ks → t ≠ n → lastB bs (gY y) t = none → t.data.toList ≠ p.1.data.toList) ∧ (∀ (t : ByteArray) wd, FrEs t.data.toList ks → t ≠ n → lastB bs (gY y) t = some wd → ¬ FrW p.1.data.toList wd) := by
  (have hn : isNm n.data.toList = true := by rw [ENm] at hx; exact hx.2.1 hq); (have hks : ENms ks := by rw [ENm] at hx; exact hx.2.2)
  have htk2 : ∀ t : List UInt8, isNm t = true → FrEs t ks → t ∈ tk := fun t h1 h2 => htk t (by
    rw [prE, avs, List.mem_append]
    exact Or.inr (frEs_avs h1 _ ks h2))
  have hntk : n.data.toList ∈ tk := htk _ (by
    rw [prE, avs, List.mem_append]; refine Or.inl ?_; unfold avP; (show _ ∈ _ ++ (if quanB kd = true then [n.data.toList] else [])); rw [if_pos hq]
    simp)
  unfold bnF at hp
  split at hp
  · subst hp
    have hfr := nxF_free [] tk k; rw [List.nil_append] at hfr; have hge := (nxF_ge [] tk (tk.length + 1) k).1; generalize nxF [] tk (tk.length + 1) k = q at *; have hno := nthS_noBg q; (refine ⟨fun t ht => ?_, hno, fun t ht hne hl e => ?_, fun t wd ht hne hl hf => ?_⟩)
    · rcases List.mem_append.1 ht with h | h
      · exact hI.mono (k' := q + 1) (by omega) t h
      · obtain rfl := List.mem_singleton.1 h
        exact ⟨hn, Or.inr (Or.inr ⟨q, Nat.lt_succ_self q, gY_new .., hfr⟩)⟩
    · have e2 : t.data.toList = nthS q := e
      rw [e2] at ht
      rcases frEs_nm ks hks ht with h | h
      · exact hfr (htk2 _ h ht)
      · rw [hno] at h; cases h
    · have hf2 : FrW (nthS q) wd := hf
      obtain ⟨b, hb, rfl, hg⟩ := lastB_mem hl; obtain ⟨h1, ⟨h2, -⟩ | h2 | ⟨j, hj, h2, h3⟩⟩ := hI b hb
      · rw [← hg, h2] at hf2
        rcases frW_nm y hy hf2 with h | h
        · exact hfr (hcg _ h hf2).2
        · rw [hno] at h; cases h
      · rw [← hg, h2, FrW, FrWs] at hf2
        (have e : b.1.data.toList = nthS q := by simpa using hf2); exact hfr (e ▸ htk2 _ h1 ht)
      · rw [← hg, h2, FrW, FrWs] at hf2
        (have e : nthS j = nthS q := by simpa using hf2); have := nthS_inj (j + 1) j q (Nat.lt_succ_self j) e; omega
  · rename_i hc
    subst hp; (refine ⟨fun t ht => ?_, nm_noBg hn, fun t ht hne hl e => ?_, fun t wd ht hne hl hf => ?_⟩)
    · rcases List.mem_append.1 ht with h | h
      · exact hI t h
      · obtain rfl := List.mem_singleton.1 h
        exact ⟨hn, Or.inr (Or.inl (gY_new ..))⟩
    · exact hne (by rw [← str_eta t, ← str_eta n]; rw [show t.data.toList = n.data.toList from e])
    · have hf2 : FrW n.data.toList wd := hf
      obtain ⟨b, hb, rfl, hg⟩ := lastB_mem hl; obtain ⟨h1, ⟨h2, h4⟩ | h2 | ⟨j, hj, h2, h3⟩⟩ := hI b hb
      · rw [← hg, h2] at hf2
        refine hc ⟨(hcg _ hn hf2).1, ?_⟩; rw [frE_fre]; (refine ⟨hnm, by simp, ?_⟩); rw [FrE]; rw [h4] at ht hne; (exact Or.inr ⟨fun _ e => hne (by rw [← str_eta nm, ← str_eta n, e]), ht⟩)
      · rw [← hg, h2, FrW, FrWs] at hf2
        (have e : b.1.data.toList = n.data.toList := by simpa using hf2); (exact hne (by rw [← str_eta b.1, ← str_eta n, e]))
      · rw [← hg, h2, FrW, FrWs] at hf2
        (have e : nthS j = n.data.toList := by simpa using hf2); exact h3 (e ▸ hntk)
/-- What stands free in what comes out. -/
def ToW (h : ByteArray → Option Wd) (t0 : List UInt8) (t : List UInt8) : Prop := match h ⟨t0.toArray⟩ with
  | some y => FrW t y
  | none => t = t0
mutual
theorem frW_pu {t : List UInt8} (h : ByteArray → Option Wd) : ∀ x : Wd, FrW t (puW h x) → ∃ t0, FrW t0 x ∧ ToW h t0 t
  | .mk n ar, hf => by
    rw [puW] at hf
    cases e : h n with
    | some y =>
      rw [e] at hf; (refine ⟨n.data.toList, by rw [FrW]; exact Or.inl rfl, ?_⟩); unfold ToW; rw [str_eta, e]
      exact hf
    | none =>
      rw [e] at hf; simp only [FrW] at hf
      rcases hf with hf | hf
      · refine ⟨n.data.toList, by rw [FrW]; exact Or.inl rfl, ?_⟩
        unfold ToW; rw [str_eta, e]; exact hf.symm
      · obtain ⟨t0, h1, h2⟩ := frWs_pu h ar hf
        (exact ⟨t0, by rw [FrW]; exact Or.inr h1, h2⟩)
theorem frWs_pu {t : List UInt8} (h : ByteArray → Option Wd) : ∀ l : List Wd, FrWs t (puWs h l) → ∃ t0, FrWs t0 l ∧ ToW h t0 t
  | [], hf => by rw [puWs, FrWs] at hf; exact hf.elim
  | x :: l, hf => by
    rw [puWs, FrWs] at hf
    rcases hf with hf | hf
    · obtain ⟨t0, h1, h2⟩ := frW_pu h x hf
      (exact ⟨t0, by rw [FrWs]; exact Or.inl h1, h2⟩)
    · obtain ⟨t0, h1, h2⟩ := frWs_pu h l hf
      (exact ⟨t0, by rw [FrWs]; exact Or.inr h1, h2⟩)
end
mutual
theorem frE_px {nm : ByteArray} {y : Wd} {cg tk : List (List UInt8)} {t : List UInt8} : ∀ (x : Ex) (bs : List BT) (k : Nat), FrE t (pxF nm y cg tk x bs k).1 → ∃ t0, FrE t0 x ∧ ToW (lastB bs (gY y)) t0 t
  | .mk kd n ws ks, bs, k, hf => by
    rw [pxF] at hf
    split at hf
    · rename_i hq
      generalize bnF nm cg tk k (.mk kd n ws ks) n = p at *; simp only [FrE] at hf
      rcases hf with hf | ⟨h1, hf⟩
      · obtain ⟨t0, h2, h3⟩ := frWs_pu _ ws hf
        (exact ⟨t0, by rw [FrE]; exact Or.inl h2, h3⟩)
      · obtain ⟨t0, h2, h3⟩ := frEs_px ks _ _ hf
        have h1' := h1 hq; unfold ToW at h3; rw [lastB_app] at h3; by_cases e : n = ⟨t0.toArray⟩
        · rw [if_pos e, gY_new] at h3
          simp only [FrW, FrWs] at h3; exact absurd (h3.resolve_right id) h1'
        · rw [if_neg e] at h3
          (exact ⟨t0, by rw [FrE]; exact Or.inr ⟨fun _ e2 => e (by rw [← e2, str_eta]), h2⟩, h3⟩)
    · rename_i hq
      simp only [FrE] at hf
      rcases hf with hf | ⟨h1, hf⟩
      · obtain ⟨t0, h2, h3⟩ := frWs_pu _ ws hf
        (exact ⟨t0, by rw [FrE]; exact Or.inl h2, h3⟩)
      · obtain ⟨t0, h2, h3⟩ := frEs_px ks _ _ hf
        (exact ⟨t0, by rw [FrE]; exact Or.inr ⟨fun e => absurd e hq, h2⟩, h3⟩)
theorem frEs_px {nm : ByteArray} {y : Wd} {cg tk : List (List UInt8)} {t : List UInt8} : ∀ (l : List Ex) (bs : List BT) (k : Nat), FrEs t (pxFs nm y cg tk l bs k).1 → ∃ t0, FrEs t0 l ∧ ToW (lastB bs (gY y)) t0 t
  | [], bs, k, hf => by rw [pxFs, FrEs] at hf; exact hf.elim
  | x :: l, bs, k, hf => by
    rw [pxFs] at hf; simp only [FrEs] at hf
    rcases hf with hf | hf
    · obtain ⟨t0, h2, h3⟩ := frE_px x _ _ hf
      (exact ⟨t0, by rw [FrEs]; exact Or.inl h2, h3⟩)
    · obtain ⟨t0, h2, h3⟩ := frEs_px l _ _ hf
      (exact ⟨t0, by rw [FrEs]; exact Or.inr h2, h3⟩)
end
/-- Of one word put: what is free then was free, and is not the variable, or stands in the word. -/
theorem fr_put {nm : ByteArray} {y : Wd} {cg tk : List (List UInt8)} (x : Ex) (t0 : BT) (h0 : t0.1 = nm) (hg : gY y t0 = y) {t : List UInt8} (h : FrE t (pxF nm y cg tk x [t0] 0).1) : (FrE t x ∧ t ≠ nm.data.toList) ∨ (FrE nm.data.toList x ∧ FrW t y) := by
  obtain ⟨a, h1, h2⟩ := frE_px x [t0] 0 h; unfold ToW lastB at h2; simp only [List.reverse_singleton, List.find?_singleton] at h2; by_cases e : a = nm.data.toList
  · subst e
    (rw [if_pos (by simp [h0])] at h2); have h3 : FrW t (gY y t0) := h2; rw [hg] at h3; exact Or.inr ⟨h1, h3⟩
  · rw [if_neg (fun h => e (by
      (have h2 : t0.1 = ⟨a.toArray⟩ := by simpa using h)
      rw [← h0, h2]))] at h2
    have h3 : t = a := h2; rw [h3]; exact Or.inl ⟨h1, e⟩
end Go.Proofs.YtheiikkeelbjnajGreat
/- Plain: expressions that are the same but for their bound names; what put leaves of them. -/
namespace Go.Proofs.YtheiikkeelbjnajGreat
open Go.RowKit Go.Sort

/-- One more than the last of the first k places at which a name is bound, or 0. -/
def bdK (l : List (List UInt8)) (t : List UInt8) : Nat → Nat
  | 0 => 0
  | k + 1 => if l[k]? = some t then k + 1 else bdK l t k
def bdN (l : List (List UInt8)) (t : List UInt8) : Nat := bdK l t l.length
theorem bdK_app (l m : List (List UInt8)) (t : List UInt8) : ∀ k, k ≤ l.length → bdK (l ++ m) t k = bdK l t k
  | 0, _ => rfl
  | k + 1, h => by rw [bdK, bdK, List.getElem?_append_left (by omega), bdK_app l m t k (by omega)]
theorem bdN_app (l : List (List UInt8)) (u t : List UInt8) : bdN (l ++ [u]) t = if u = t then l.length + 1 else bdN l t := by
  unfold bdN; rw [List.length_append, List.length_singleton, bdK, List.getElem?_append_right (Nat.le_refl _), Nat.sub_self]; simp only [List.getElem?_cons_zero, Option.some.injEq]
  split
  · rfl
  · exact bdK_app l [u] t _ (Nat.le_refl _)
/-- Are two names the same, with what is bound around them? -/
def alN (la lb : List (List UInt8)) (n m : List UInt8) : Bool := bdN la n == bdN lb m && (decide (0 < bdN la n) || n == m)
mutual
def alW (la lb : List (List UInt8)) : Wd → Wd → Bool
  | .mk n ar, .mk m br => alN la lb n.data.toList m.data.toList && alWs la lb ar br
def alWs (la lb : List (List UInt8)) : List Wd → List Wd → Bool
  | [], [] => true
  | x :: l, y :: m => alW la lb x y && alWs la lb l m
  | [], _ :: _ => false
  | _ :: _, [] => false
end
mutual
/-- Are two expressions the same but for their bound names? -/
def alE (la lb : List (List UInt8)) : Ex → Ex → Bool
  | .mk k n ws ks, .mk j m us js => k == j && (if quanB k = true then alEs (la ++ [n.data.toList]) (lb ++ [m.data.toList]) ks js else n.data.toList == m.data.toList && alWs la lb ws us && alEs la lb ks js)
def alEs (la lb : List (List UInt8)) : List Ex → List Ex → Bool
  | [], [] => true
  | x :: l, y :: m => alE la lb x y && alEs la lb l m
  | [], _ :: _ => false
  | _ :: _, [] => false
end
mutual
/-- Variables have no Args. -/
def WAr : Wd → Prop
  | .mk n ar => (isNm n.data.toList = true → ar = []) ∧ WArs ar
def WArs : List Wd → Prop
  | [] => True
  | x :: l => WAr x ∧ WArs l
end
mutual
def EAr : Ex → Prop
  | .mk _ _ ws ks => WArs ws ∧ EArs ks
def EArs : List Ex → Prop
  | [] => True
  | x :: l => EAr x ∧ EArs l
end
mutual
theorem wchk_ar : ∀ (x : Wd) (s : Nat) (p f : PlF) (s' : Nat) (p' f' : PlF), wchk x s p f = .ok s' p' f' → WAr x
  | .mk n ar, s, p, f, s', p', f', h => by
    rw [wchk] at h
    split at h
    · cases h
    · split at h
      · cases h
      · rename_i h1
        have hn : isNm n.data.toList = true → ar = [] := by
          intro ha; unfold wnodeF at h1
          split at h1
          · cases h1
          · split at h1
            · cases h1
            · rename_i h3
              rcases ar with _ | ⟨a, l⟩
              · rfl
              · exact absurd ⟨ha, by simp⟩ h3
        rw [WAr]
        split at h
        · split at h
          · cases h
          · exact ⟨hn, wchks_ar ar _ _ _ _ _ _ h⟩
        · exact ⟨hn, wchks_ar ar _ _ _ _ _ _ h⟩
theorem wchks_ar : ∀ (l : List Wd) (s : Nat) (p f : PlF) (s' : Nat) (p' f' : PlF), wchks l s p f = .ok s' p' f' → WArs l
  | [], _, _, _, _, _, _, _ => by rw [WArs]; trivial
  | x :: xs, s, p, f, s', p', f', h => by
    rw [wchks] at h
    split at h
    · cases h
    · rename_i h1
      rw [WArs]; exact ⟨wchk_ar x _ _ _ _ _ _ h1, wchks_ar xs _ _ _ _ _ _ h⟩
end
mutual
theorem echk_ar : ∀ (x : Ex) (s : Nat) (p f : PlF) (s' : Nat) (p' f' : PlF), echk x s p f = .ok s' p' f' → EAr x
  | .mk k n ws ks, s, p, f, s', p', f', h => by
    rw [echk] at h
    split at h
    · cases h
    · split at h
      · cases h
      · split at h
        · cases h
        · split at h
          · cases h
          · rename_i h2
            rw [EAr]; exact ⟨wchks_ar ws _ _ _ _ _ _ h2, echks_ar ks _ _ _ _ _ _ h⟩
theorem echks_ar : ∀ (l : List Ex) (s : Nat) (p f : PlF) (s' : Nat) (p' f' : PlF), echks l s p f = .ok s' p' f' → EArs l
  | [], _, _, _, _, _, _, _ => by rw [EArs]; trivial
  | x :: xs, s, p, f, s', p', f', h => by
    rw [echks] at h
    split at h
    · cases h
    · rename_i h1
      rw [EArs]; exact ⟨echk_ar x _ _ _ _ _ _ h1, echks_ar xs _ _ _ _ _ _ h⟩
end
mutual
/-- What is free in a word and not put away is free in what comes out. -/
theorem frW_pu2 {t t0 : List UInt8} (h : ByteArray → Option Wd) (hb : ∀ n y, h n = some y → isNm n.data.toList = true) : ∀ x : Wd, WAr x → FrW t0 x → ToW h t0 t → FrW t (puW h x)
  | .mk n ar, ha, hf, ht => by
    rw [WAr] at ha; rw [puW]; rw [FrW] at hf
    cases e : h n with
    | some y =>
      have har := ha.1 (hb _ _ e); subst har; rw [FrWs] at hf; have e2 := hf.resolve_right id; subst e2; unfold ToW at ht; rw [str_eta, e] at ht
      exact ht
    | none =>
      show FrW t (.mk n (puWs h ar)); rw [FrW]
      rcases hf with e2 | hf
      · subst e2
        unfold ToW at ht; rw [str_eta, e] at ht; exact Or.inl ht.symm
      · exact Or.inr (frWs_pu2 h hb ar ha.2 hf ht)
theorem frWs_pu2 {t t0 : List UInt8} (h : ByteArray → Option Wd) (hb : ∀ n y, h n = some y → isNm n.data.toList = true) : ∀ l : List Wd, WArs l → FrWs t0 l → ToW h t0 t → FrWs t (puWs h l)
  | [], _, hf, _ => by rw [FrWs] at hf; exact hf.elim
  | x :: l, ha, hf, ht => by
    rw [WArs] at ha; rw [FrWs] at hf; rw [puWs, FrWs]
    rcases hf with hf | hf
    · exact Or.inl (frW_pu2 h hb x ha.1 hf ht)
    · exact Or.inr (frWs_pu2 h hb l ha.2 hf ht)
end
theorem binv_nm {tk : List (List UInt8)} {nm : ByteArray} {y : Wd} {k : Nat} {bs : List BT} (hI : BInv tk nm y k bs) (n : ByteArray) (z : Wd) (h : lastB bs (gY y) n = some z) : isNm n.data.toList = true := by
  obtain ⟨b, hb, rfl, -⟩ := lastB_mem h; exact (hI b hb).1
mutual
theorem frE_px2 {nm : ByteArray} {y : Wd} {cg tk : List (List UInt8)} (hnm : isNm nm.data.toList = true) (hy : WNm y) (hcg : ∀ t, isNm t = true → FrW t y → t ∈ cg ∧ t ∈ tk) {t t0 : List UInt8} :
    ∀ (x : Ex) (bs : List BT) (k : Nat), BInv tk nm y k bs → ENm x → EAr x → (∀ t ∈ avs (prE [] x), t ∈ tk) → FrE t0 x → ToW (lastB bs (gY y)) t0 t → FrE t (pxF nm y cg tk x bs k).1
  | .mk kd n ws ks, bs, k, hI, hx, ha, htk, hf, ht => by
    have hx' := hx; rw [ENm] at hx'; rw [EAr] at ha; rw [FrE] at hf
    have hks : ∀ t ∈ avs (prEs [] ks), t ∈ tk := fun t ht => htk t (by
      rw [prE, avs, List.mem_append, avss_bd (bdIn [] kd n) [] ks]
      exact Or.inr ht)
    rw [pxF]
    split
    · rename_i hq
      obtain ⟨hI2, hbg, hA, hB⟩ := bn_step hI hq hy hcg hx hnm htk _ rfl; generalize bnF nm cg tk k (.mk kd n ws ks) n = p at *; show FrE t (.mk kd p.1 _ _); rw [FrE]
      rcases hf with hf | ⟨h1, hf⟩
      · exact Or.inl (frWs_pu2 _ (binv_nm hI) ws ha.1 hf ht)
      · have h1' := h1 hq
        (have et : (⟨t0.toArray⟩ : ByteArray).data.toList = t0 := by simp); (have hne : (⟨t0.toArray⟩ : ByteArray) ≠ n := fun e => h1' (by rw [← e, et])); (have el : lastB (bs ++ [(n, p.1, .slice none 0 0)]) (gY y) ⟨t0.toArray⟩ = lastB bs (gY y) ⟨t0.toArray⟩ := by rw [lastB_app, if_neg (fun h => hne h.symm)]); (refine Or.inr ⟨fun _ e2 => ?_, frEs_px2 hnm hy hcg ks _ _ hI2 hx'.2.2 ha.2 hks hf (by unfold ToW at ht ⊢; rw [el]; exact ht)⟩); rw [← et] at hf; unfold ToW at ht
        rcases hl : lastB bs (gY y) ⟨t0.toArray⟩ with _ | wd
        · rw [hl] at ht
          have ht' : t = t0 := ht; (exact hA _ hf hne hl (by rw [et, ← ht', ← e2]))
        · rw [hl] at ht
          have ht' : FrW t wd := ht; (exact hB _ wd hf hne hl (by rw [e2]; exact ht'))
    · rename_i hq
      show FrE t (.mk kd n _ _); rw [FrE]
      rcases hf with hf | ⟨-, hf⟩
      · exact Or.inl (frWs_pu2 _ (binv_nm hI) ws ha.1 hf ht)
      · exact Or.inr ⟨fun e => absurd e hq, frEs_px2 hnm hy hcg ks _ _ hI hx'.2.2 ha.2 hks hf ht⟩
theorem frEs_px2 {nm : ByteArray} {y : Wd} {cg tk : List (List UInt8)} (hnm : isNm nm.data.toList = true) (hy : WNm y) (hcg : ∀ t, isNm t = true → FrW t y → t ∈ cg ∧ t ∈ tk) {t t0 : List UInt8} :
    ∀ (l : List Ex) (bs : List BT) (k : Nat), BInv tk nm y k bs → ENms l → EArs l → (∀ t ∈ avs (prEs [] l), t ∈ tk) → FrEs t0 l → ToW (lastB bs (gY y)) t0 t → FrEs t (pxFs nm y cg tk l bs k).1
  | [], _, _, _, _, _, _, hf, _ => by rw [FrEs] at hf; exact hf.elim
  | x :: l, bs, k, hI, hx, ha, htk, hf, ht => by
    rw [ENms] at hx; rw [EArs] at ha; rw [prEs, avs_app] at htk; rw [FrEs] at hf; rw [pxFs]; show FrEs t ((pxF nm y cg tk x bs k).1 :: (pxFs nm y cg tk l bs _).1); rw [FrEs]
    rcases hf with hf | hf
    · exact Or.inl (frE_px2 hnm hy hcg x bs k hI hx.1 ha.1 (fun t ht => htk t (List.mem_append.2 (Or.inl ht))) hf ht)
    · exact Or.inr (frEs_px2 hnm hy hcg l bs _ (hI.mono (pxF_ge nm y cg tk x bs k)) hx.2 ha.2 (fun t ht => htk t (List.mem_append.2 (Or.inr ht))) hf ht)
end
theorem binv_one {tk : List (List UInt8)} {nm : ByteArray} {y : Wd} {t0 : BT} (h0 : t0.1 = nm) (hg : gY y t0 = y) (hnm : isNm nm.data.toList = true) : BInv tk nm y 0 [t0] := fun t ht => by
  obtain rfl := List.mem_singleton.1 ht; exact ⟨h0 ▸ hnm, Or.inl ⟨hg, h0⟩⟩
theorem cg_all {y : Wd} {x : Ex} (t : List UInt8) (h1 : isNm t = true) (h2 : FrW t y) : t ∈ vrs (prWs [y]) ∧ t ∈ avs (prE [] x) ++ vrs (prWs [y]) := by
  (have h3 : t ∈ vrs (prWs [y]) := by rw [prWs, prWs, List.append_nil]; exact (frW_vrs h1 y).1 h2); exact ⟨h3, List.mem_append.2 (Or.inr h3)⟩
/-- Of one word put: what is free and another variable stays free. -/
theorem fr_put2 {nm : ByteArray} {y : Wd} (x : Ex) (t0 : BT) (h0 : t0.1 = nm) (hg : gY y t0 = y) (hnm : isNm nm.data.toList = true) (hy : WNm y) (hx : ENm x) (ha : EAr x) {t : List UInt8} (hf : FrE t x) (hne : t ≠ nm.data.toList) : FrE t (putX nm y t0 x) := by
  unfold putX; (refine frE_px2 (t0 := t) hnm hy cg_all x [t0] 0 (binv_one h0 hg hnm) hx ha (fun t ht => List.mem_append.2 (Or.inl ht)) hf ?_); unfold ToW lastB; simp only [List.reverse_singleton, List.find?_singleton]
  rw [if_neg (fun h => hne (by
    (have h2 : t0.1 = ⟨t.toArray⟩ := by simpa using h)
    rw [← h0, h2]))]
  exact trivial
/-- A name and what is put for it, with what is bound around both. -/
def AlR (la lb : List (List UInt8)) (h : ByteArray → Option Wd) (t : ByteArray) : Prop := match h t with
  | some y => ∃ m : ByteArray, y = .mk m [] ∧ alN la lb t.data.toList m.data.toList = true
  | none => alN la lb t.data.toList t.data.toList = true
mutual
theorem alW_pu (la lb : List (List UInt8)) (h : ByteArray → Option Wd) (hb : ∀ n y, h n = some y → isNm n.data.toList = true) : ∀ x : Wd, WAr x → (∀ t : ByteArray, FrW t.data.toList x → AlR la lb h t) → alW la lb x (puW h x) = true
  | .mk n ar, ha, hr => by
    rw [WAr] at ha; (have h1 := hr n (by rw [FrW]; exact Or.inl rfl)); unfold AlR at h1; rw [puW]
    cases e : h n with
    | some y =>
      rw [e] at h1; obtain ⟨m, rfl, h2⟩ := h1; have har := ha.1 (hb _ _ e); subst har; show alW la lb (.mk n []) (.mk m []) = true; rw [alW, alWs, h2]
      rfl
    | none =>
      rw [e] at h1; have h2 : alN la lb n.data.toList n.data.toList = true := h1; show alW la lb (.mk n ar) (.mk n (puWs h ar)) = true; (rw [alW, h2, alWs_pu la lb h hb ar ha.2 fun t ht => hr t (by rw [FrW]; exact Or.inr ht)]); rfl
theorem alWs_pu (la lb : List (List UInt8)) (h : ByteArray → Option Wd) (hb : ∀ n y, h n = some y → isNm n.data.toList = true) : ∀ l : List Wd, WArs l → (∀ t : ByteArray, FrWs t.data.toList l → AlR la lb h t) → alWs la lb l (puWs h l) = true
  | [], _, _ => by rw [puWs, alWs]
  | x :: l, ha, hr => by
    rw [WArs] at ha; (rw [puWs, alWs, alW_pu la lb h hb x ha.1 fun t ht => hr t (by rw [FrWs]; exact Or.inl ht), alWs_pu la lb h hb l ha.2 fun t ht => hr t (by rw [FrWs]; exact Or.inr ht)]); rfl
end
theorem alN_iff {la lb : List (List UInt8)} {n m : List UInt8} : alN la lb n m = true ↔ bdN la n = bdN lb m ∧ (0 < bdN la n ∨ n = m) := by
  unfold alN
  simp
mutual
/-- A variable for a variable: but for bound names it is what it was, with that variable. -/
theorem alE_px {nm : ByteArray} {y : Wd} {cg tk : List (List UInt8)} (hnm : isNm nm.data.toList = true) (hy : WNm y) (hcg : ∀ t, isNm t = true → FrW t y → t ∈ cg ∧ t ∈ tk) :
    ∀ (x : Ex) (bs : List BT) (k : Nat) (la lb : List (List UInt8)), BInv tk nm y k bs → ENm x → EAr x → (∀ t ∈ avs (prE [] x), t ∈ tk) → la.length = lb.length → (∀ t : ByteArray, FrE t.data.toList x → AlR la lb (lastB bs (gY y)) t) → alE la lb x (pxF nm y cg tk x bs k).1 = true
  | .mk kd n ws ks, bs, k, la, lb, hI, hx, ha, htk, hl, hr => by
    have hx' := hx; rw [ENm] at hx'; rw [EAr] at ha
    have hks : ∀ t ∈ avs (prEs [] ks), t ∈ tk := fun t ht => htk t (by
      rw [prE, avs, List.mem_append, avss_bd (bdIn [] kd n) [] ks]
      exact Or.inr ht)
    rw [pxF]
    split
    · rename_i hq
      obtain ⟨hI2, hbg, hA, hB⟩ := bn_step hI hq hy hcg hx hnm htk _ rfl; generalize bnF nm cg tk k (.mk kd n ws ks) n = p at *; show alE la lb (.mk kd n ws ks) (.mk kd p.1 _ _) = true; rw [alE, if_pos hq, beq_self_eq_true, Bool.true_and]; (refine alEs_px hnm hy hcg ks _ _ _ _ hI2 hx'.2.2 ha.2 hks (by simp [hl]) fun t ht => ?_); unfold AlR; rw [lastB_app]; by_cases e : n = t
      · subst e
        rw [if_pos rfl]; refine ⟨p.1, rfl, ?_⟩; rw [alN_iff, bdN_app, bdN_app, if_pos rfl, if_pos rfl]; (exact ⟨by omega, Or.inl (by omega)⟩)
      · rw [if_neg e]
        (have e' : n.data.toList ≠ t.data.toList := fun h => e (by rw [← str_eta n, ← str_eta t, h])); (have h1 := hr t (by rw [FrE]; exact Or.inr ⟨fun _ => e', ht⟩)); unfold AlR at h1
        rcases hb : lastB bs (gY y) t with _ | wd
        · rw [hb] at h1
          have h2 : alN la lb t.data.toList t.data.toList = true := h1; (have h3 := hA t ht (fun h => e h.symm) hb); rw [alN_iff] at h2; show alN _ _ _ _ = true; (rw [alN_iff, bdN_app, bdN_app, if_neg e', if_neg (fun h => h3 h.symm)]); exact h2
        · rw [hb] at h1
          obtain ⟨m, rfl, h2⟩ := h1; (have h3 := hB t _ ht (fun h => e h.symm) hb); rw [FrW] at h3; refine ⟨m, rfl, ?_⟩; rw [alN_iff] at h2; (rw [alN_iff, bdN_app, bdN_app, if_neg e', if_neg (fun h => h3 (Or.inl h.symm))]); exact h2
    · rename_i hq
      show alE la lb (.mk kd n ws ks) (.mk kd n _ _) = true
      rw [alE, if_neg hq, beq_self_eq_true, beq_self_eq_true, alWs_pu la lb _ (binv_nm hI) ws ha.1 fun t ht => hr t (by rw [FrE]; exact Or.inl ht),
        alEs_px hnm hy hcg ks bs k la lb hI hx'.2.2 ha.2 hks hl fun t ht => hr t (by rw [FrE]; exact Or.inr ⟨fun e => absurd e hq, ht⟩)]
      rfl
theorem alEs_px {nm : ByteArray} {y : Wd} {cg tk : List (List UInt8)} (hnm : isNm nm.data.toList = true) (hy : WNm y) (hcg : ∀ t, isNm t = true → FrW t y → t ∈ cg ∧ t ∈ tk) :
    ∀ (l : List Ex) (bs : List BT) (k : Nat) (la lb : List (List UInt8)), BInv tk nm y k bs → ENms l → EArs l → (∀ t ∈ avs (prEs [] l), t ∈ tk) → la.length = lb.length → (∀ t : ByteArray, FrEs t.data.toList l → AlR la lb (lastB bs (gY y)) t) → alEs la lb l (pxFs nm y cg tk l bs k).1 = true
  | [], _, _, _, _, _, _, _, _, _, _ => by rw [pxFs, alEs]
  | x :: l, bs, k, la, lb, hI, hx, ha, htk, hl, hr => by
    rw [ENms] at hx; rw [EArs] at ha; rw [prEs, avs_app] at htk; rw [pxFs]; show alEs la lb (x :: l) ((pxF nm y cg tk x bs k).1 :: (pxFs nm y cg tk l bs _).1) = true
    rw [alEs, alE_px hnm hy hcg x bs k la lb hI hx.1 ha.1 (fun t ht => htk t (List.mem_append.2 (Or.inl ht))) hl fun t ht => hr t (by rw [FrEs]; exact Or.inl ht),
      alEs_px hnm hy hcg l bs _ la lb (hI.mono (pxF_ge nm y cg tk x bs k)) hx.2 ha.2 (fun t ht => htk t (List.mem_append.2 (Or.inr ht))) hl fun t ht => hr t (by rw [FrEs]; exact Or.inr ht)]
    rfl
end
/-- A variable put for itself changes nothing. -/
theorem al_self {nm : ByteArray} (x : Ex) (t0 : BT) (h0 : t0.1 = nm) (hg : gY (.mk nm []) t0 = .mk nm []) (hnm : isNm nm.data.toList = true) (hx : ENm x) (ha : EAr x) : alE [] [] x (putX nm (.mk nm []) t0 x) = true := by
  unfold putX; (refine alE_px hnm (by rw [WNm, WNms]; exact ⟨Or.inl hnm, trivial⟩) cg_all x [t0] 0 [] [] (binv_one h0 hg hnm) hx ha (fun t ht => List.mem_append.2 (Or.inl ht)) rfl fun t _ => ?_); unfold AlR lastB; simp only [List.reverse_singleton, List.find?_singleton]; (have hz : ∀ t, alN [] [] t t = true := fun t => by rw [alN_iff]; exact ⟨rfl, Or.inr rfl⟩); by_cases e : t0.1 = t
  · rw [if_pos (by simpa using e)]
    refine ⟨nm, hg, ?_⟩; rw [← e, h0]; exact hz _
  · rw [if_neg (by simpa using e)]
    exact hz _
end Go.Proofs.YtheiikkeelbjnajGreat
/- Walks: the yardstick's HasVariable. -/
namespace Go.Proofs.YtheiikkeelbjnajGreat
open Go.RowKit

mutual
def hvW (t : List UInt8) : Wd → Bool
  | .mk n ar => decide (n.data.toList = t) || hvWs t ar
def hvWs (t : List UInt8) : List Wd → Bool
  | [] => false
  | x :: l => hvW t x || hvWs t l
end
mutual
theorem hvW_iff {t : List UInt8} : ∀ x : Wd, hvW t x = true ↔ FrW t x
  | .mk n ar => by rw [hvW, FrW, Bool.or_eq_true, hvWs_iff ar, decide_eq_true_iff]
theorem hvWs_iff {t : List UInt8} : ∀ l : List Wd, hvWs t l = true ↔ FrWs t l
  | [] => by rw [hvWs, FrWs]; simp
  | x :: l => by rw [hvWs, FrWs, Bool.or_eq_true, hvW_iff x, hvWs_iff l]
end
theorem hvWs_drop {t : List UInt8} {l : List Wd} {i : Nat} {x : Wd} (h : l[i]? = some x) : hvWs t (l.drop i) = (hvW t x || hvWs t (l.drop (i + 1))) := by
  have hi := (List.getElem?_eq_some_iff.1 h).1; rw [List.drop_eq_getElem_cons hi, hvWs]; rw [List.getElem?_eq_getElem hi] at h; rw [Option.some.inj h]
def HvWs (m : Nat) : Prop := ∀ (f : Wd) (t : ByteArray) (v : Value) (w : World), f.size < m → WRp w f v →
  Calls Tryz.prog 27 #[v, .string t] w fun e w' => e = .returned (.bool (hvW t.data.toList f)) ∧ Below w.heap.size w w'
set_option maxHeartbeats 1000000 in
theorem hasv_step (m : Nat) (ih : HvWs m) : HvWs (m + 1) := by
  intro f t v w hm hrep; obtain ⟨n, ks⟩ := f; obtain ⟨sl, cap, rfl, hx1, hx2, hx3, hx4⟩ := WRp.def.1 hrep; have HX : Hid (ks ≠ [] → ∃ b off, sl = some ⟨b, off, none⟩ ∧ WRps w b off ks) := hx4; (have hlen : ((ks.length : Nat) : Int) ≤ 9223372036854775807 := by unfold maxLen at hx3; omega); have HB0 : Hid (Below w.heap.size w (w.alloc (.cells #[.string n, .slice sl ks.length cap] 27 (0, 0)))) := below_more (Below.refl _ _) _; have HQ : Hid ((w.alloc (.cells #[.string n, .slice sl ks.length cap] 27 (0, 0))).heap[w.heap.size]? = some (.cells #[.string n, .slice sl ks.length cap] 27 (0, 0))) := blk_new _ _; have hc2 := hx2; clear hx4 hrep; by_cases h2 : n.data.toList = t.data.toList
  · have hE : hvW t.data.toList (.mk n ks) = true := by rw [hvW]; simp [h2]
    rw [hE]; (have h2' : n = t := by apply ByteArray.ext; apply Array.ext'; exact h2); subst h2'; clear hE h2
    go_enter Tryz.func27, Tryz.ntmps27
    go_wp2_with fail; go_ret; exact ⟨rfl, HB0.out⟩
  · have hE : hvW t.data.toList (.mk n ks) = hvWs t.data.toList ks := by rw [hvW]; simp [h2]
    rw [hE]; (have h2' : ¬ n.toList = t.toList := by rw [ByteArray.toList_eq, ByteArray.toList_eq]; exact h2); clear hE h2
    go_enter Tryz.func27, Tryz.ntmps27
    go_wp2_with fail
    · exact absurd (by assumption : (n.toList == t.toList) = true) (by simpa using h2')
    (rw [show (n.toList == t.toList) = false from by assumption]); clear h2'
    go_loopg [5] ks.length (fun g c wr => ∃ i, i ≤ ks.length ∧ g = ks.length - i ∧ c = .int .i64 (i : Nat) ∧ Hid (Below w.heap.size w wr) ∧ Hid (wr.heap[w.heap.size]? = some (.cells #[.string n, .slice sl ks.length cap] 27 (0, 0))) ∧ Hid (hvWs t.data.toList (ks.drop i) = hvWs t.data.toList ks))
    case atStart => exact ⟨0, by omega, by omega, rfl, HB0, HQ, by show _ = _; simp⟩
    case round =>
      obtain ⟨i, hi, hg, rfl, HBr, HQr, HS⟩ := hrel; have HG : Hid (gk = ks.length - i) := hg; clear hg; obtain ⟨e0, e1, -⟩ := blk2 HQr.out; by_cases hlt : i < ks.length
      · obtain ⟨b, off, hsl, hrs⟩ := HX.out (fun e => by rw [e] at hlt; simp at hlt)
        subst hsl; obtain ⟨⟨n2, ks2⟩, hki⟩ : ∃ f, ks[i]? = some f := ⟨_, List.getElem?_eq_getElem hlt⟩; obtain ⟨sl2, cap2, g0, g1, hrep2⟩ := (hrs.up HBr.out).at i n2 ks2 hki; (have hlt2 : (i : Int) < (ks.length : Int) := by omega); (have hlc : ((i : Nat) : Int) < ((cap : Nat) : Int) := by omega); have hds := HS.out; rw [hvWs_drop hki] at hds; have HD : Hid (_ = hvWs t.data.toList ks) := hds; (have HI : Hid (Calls Tryz.prog 27 #[.agg #[.string n2, .slice sl2 ks2.length cap2], .string t] wr fun e w' => e = .returned (.bool (hvW t.data.toList (.mk n2 ks2))) ∧ Below wr.heap.size wr w') := ih _ t _ wr (by have := wsize_get hki; rw [Wd.size] at hm; omega) hrep2); have HLt : Hid (i < ks.length) := hlt; clear hki hrs hrep2 hds HS hlt; go_wp2_with fail; refine HI.out.mono ?_; rintro _ w1 ⟨rfl, hb1⟩; have HB1 : Hid (Below w.heap.size w w1) := below_join HBr.out hb1; have HQ1 : Hid (w1.heap[w.heap.size]? = some (.cells #[.string n, .slice (some ⟨b, off, none⟩) ks.length cap] 27 (0, 0))) := below_keep hb1 HQr.out; clear hb1 e0 e1 g0 g1 HI
        rcases hal : hvW t.data.toList (.mk n2 ks2) with _ | _
        · rw [hal, Bool.false_or] at HD
          clear hal; go_wp2_with fail
          go_roundg (ks.length - (i + 1))
          case measure => have := HG.out; have := HLt.out; omega
          case rel => exact ⟨i + 1, HLt.out, rfl, by go_num, HB1, HQ1, HD.out⟩
        · rw [hal, Bool.true_or] at HD
          clear hal; go_wp2_with fail; go_ret; exact ⟨ret_bool HD.out, HB1.out⟩
      · have hge : ¬ (i : Int) < (ks.length : Int) := by omega
        go_wp2_with fail; go_ret; refine ⟨ret_bool ?_, HBr.out⟩; (rw [← HS.out, List.drop_of_length_le (by omega), hvWs])
theorem hasv_all : ∀ m, HvWs m
  | 0 => fun _ _ _ _ h => absurd h (Nat.not_lt_zero _)
  | m + 1 => hasv_step m (hasv_all m)
theorem hasVar_any (f : Wd) (t : ByteArray) (v : Value) (w : World) (hv : WRp w f v) :
    Calls Tryz.prog 27 #[v, .string t] w fun e w' => e = .returned (.bool (hvW t.data.toList f)) ∧ Below w.heap.size w w' :=
  hasv_all (f.size + 1) f t v w (Nat.lt_succ_self _) hv
end Go.Proofs.YtheiikkeelbjnajGreat
