/- Texts of one proof, one behind the other: MP1, MP2. -/
import Derived.Test.YtblodnpfckflaakGreatB28
import Derived.Test.YtblodnpfckflaakGreatB39
/- Plain: the substitution lemma: what an expression with a word put for a variable is in a structure. -/
namespace Go.Proofs.YtblodnpfckflaakGreat
open Go.RowKit Go.Sort Go.Maps Go.WideMaps

mutual
/-- A name stands in a word. -/
def FrW (t : List UInt8) : Wd → Prop
  | .mk n ar => n.data.toList = t ∨ FrWs t ar
def FrWs (t : List UInt8) : List Wd → Prop
  | [] => False
  | x :: l => FrW t x ∨ FrWs t l
end
mutual
/-- A name stands free in an expression's words. -/
def FrE (t : List UInt8) : Ex → Prop
  | .mk k n ws ks => FrWs t ws ∨ ((quanB k = true → n.data.toList ≠ t) ∧ FrEs t ks)
def FrEs (t : List UInt8) : List Ex → Prop
  | [] => False
  | x :: l => FrE t x ∨ FrEs t l
end
mutual
theorem wv_congr {V : VwD} {va vb : List UInt8 → Nat} : ∀ x : Wd, (∀ t, FrW t x → va t = vb t) → wv V va x = wv V vb x
  | .mk n ar, h => by
    (rw [wv, wv, wpl_congr ar fun t ht => h t (by rw [FrW]; exact Or.inr ht), h n.data.toList (by rw [FrW]; exact Or.inl rfl)])
theorem wpl_congr {V : VwD} {va vb : List UInt8 → Nat} : ∀ l : List Wd, (∀ t, FrWs t l → va t = vb t) → wpl V va l = wpl V vb l
  | [], _ => by rw [wpl, wpl]
  | x :: l, h => by
    (rw [wpl, wpl, wv_congr x fun t ht => h t (by rw [FrWs]; exact Or.inl ht), wpl_congr l fun t ht => h t (by rw [FrWs]; exact Or.inr ht)])
end
theorem vset_eq {va : List UInt8 → Nat} {s : List UInt8} {t : Nat} : vset va s t s = t := by unfold vset; rw [if_pos rfl]
theorem vset_ne {va : List UInt8 → Nat} {s j : List UInt8} {t : Nat} (h : j ≠ s) : vset va s t j = va j := by unfold vset; rw [if_neg h]
/-- Are the first two words the same? -/
def w2F (V : VwD) (va : List UInt8 → Nat) : List Wd → Bool
  | a :: b :: _ => wv V va a == wv V va b
  | _ => false
theorem evN_congr {V : VwD} {k : Int} {n : List UInt8} {ws ws' : List Wd} {fs fs' : List ((List UInt8 → Nat) → Bool)} {va vb : List UInt8 → Nat} (n' : List UInt8) (hn : quanB k = false → n' = n) (hw : wpl V va ws' = wpl V vb ws) (h2 : w2F V va ws' = w2F V vb ws)
    (hq : quanB k = false → ∀ i, kidF fs' i va = kidF fs i vb) (hk : quanB k = true → ∀ d, kidF fs' 0 (vset va n' d) = kidF fs 0 (vset vb n d)) : evN V k n' ws' fs' va = evN V k n ws fs vb := by
  unfold evN
  rcases hb : quanB k with _ | _
  · obtain ⟨h9, h10⟩ : k ≠ 9 ∧ k ≠ 10 := by unfold quanB at hb; simpa using hb
    by_cases e2 : k = 2
    · subst e2
      (rw [if_neg (by decide), if_pos rfl, if_neg (by decide), if_pos rfl]); exact h2
    · rw [hn hb, hw, hq hb 0, hq hb 1]
      simp only [if_neg h9, if_neg h10, if_neg e2]
  · have h1 : k = 9 ∨ k = 10 := by unfold quanB at hb; simpa using hb
    (have e : (fun t => kidF fs' 0 (vset va n' t)) = fun t => kidF fs 0 (vset vb n t) := funext fun t => hk hb t); (have e2 : (fun t => !(kidF fs' 0 (vset va n' t))) = fun t => !(kidF fs 0 (vset vb n t)) := funext fun t => by rw [hk hb t]); rw [e, e2]
    rcases h1 with rfl | rfl <;> rfl
mutual
theorem evx_congr {V : VwD} : ∀ (x : Ex) (va vb : List UInt8 → Nat), (∀ t, FrE t x → va t = vb t) → ev V x va = ev V x vb
  | .mk k n ws ks, va, vb, h => by
    (have hw : ∀ t, FrWs t ws → va t = vb t := fun t ht => h t (by rw [FrE]; exact Or.inl ht)); rw [ev]; (refine evN_congr n.data.toList (fun _ => rfl) (wpl_congr ws hw) ?_ (fun hq i => ?_) (fun hq d => ?_))
    · rcases ws with _ | ⟨a, _ | ⟨b, l⟩⟩
      · rfl
      · rfl
      · have h1 := wv_congr (V := V) a fun t ht => hw t (by rw [FrWs]; exact Or.inl ht)
        (have h2 := wv_congr (V := V) b fun t ht => hw t (by rw [FrWs, FrWs]; exact Or.inr (Or.inl ht))); show (_ == _) = (_ == _); rw [h1, h2]
    · exact evxs_congr ks va vb (fun t ht => h t (by rw [FrE]; exact Or.inr ⟨fun e => absurd (e.symm.trans hq) (by decide), ht⟩)) i
    · refine evxs_congr ks _ _ (fun t ht => ?_) 0
      by_cases e : t = n.data.toList
      · rw [e, vset_eq, vset_eq]
      · rw [vset_ne e, vset_ne e]
        (exact h t (by rw [FrE]; exact Or.inr ⟨fun _ e2 => e e2.symm, ht⟩))
theorem evxs_congr {V : VwD} : ∀ (l : List Ex) (va vb : List UInt8 → Nat), (∀ t, FrEs t l → va t = vb t) → ∀ i, kidF (evs V l) i va = kidF (evs V l) i vb
  | [], _, _, _, i => by rw [evs]; rfl
  | x :: l, va, vb, h, 0 => by
    rw [evs]
    exact evx_congr x va vb fun t ht => h t (by rw [FrEs]; exact Or.inl ht)
  | x :: l, va, vb, h, i + 1 => by
    rw [evs]; (exact evxs_congr l va vb (fun t ht => h t (by rw [FrEs]; exact Or.inr ht)) i)
end
/-- The value of a name, with words put. -/
def vaS (V : VwD) (va : List UInt8 → Nat) (h : ByteArray → Option Wd) : List UInt8 → Nat := fun t => match h ⟨t.toArray⟩ with
  | some y => wv V va y
  | none => va t
theorem vaS_some {V : VwD} {va : List UInt8 → Nat} {h : ByteArray → Option Wd} {n : ByteArray} {y : Wd} (e : h n = some y) : vaS V va h n.data.toList = wv V va y := by
  unfold vaS; rw [str_eta, e]
theorem vaS_none {V : VwD} {va : List UInt8 → Nat} {h : ByteArray → Option Wd} {n : ByteArray} (e : h n = none) : vaS V va h n.data.toList = va n.data.toList := by
  unfold vaS; rw [str_eta, e]
mutual
theorem wv_pu {V : VwD} (va : List UInt8 → Nat) (h : ByteArray → Option Wd) (hb : ∀ n y, h n = some y → V.fn n.data.toList = none) : ∀ x : Wd, wv V va (puW h x) = wv V (vaS V va h) x
  | .mk n ar => by
    rw [puW, wv]
    cases e : h n with
    | some y =>
      rw [hb n y e]
      exact (vaS_some e).symm
    | none =>
      show wv V va (.mk n (puWs h ar)) = _; rw [wv, wpl_pu va h hb ar, vaS_none e]
theorem wpl_pu {V : VwD} (va : List UInt8 → Nat) (h : ByteArray → Option Wd) (hb : ∀ n y, h n = some y → V.fn n.data.toList = none) : ∀ l : List Wd, wpl V va (puWs h l) = wpl V (vaS V va h) l
  | [] => by rw [puWs, wpl, wpl]
  | x :: l => by rw [puWs, wpl, wpl, wv_pu va h hb x, wpl_pu va h hb l]
end
/-- What binds are: of the word, or of names kept, or of new ones. -/
def BInv (tk : List (List UInt8)) (nm : ByteArray) (y : Wd) (k : Nat) (bs : List BT) : Prop := ∀ t ∈ bs, isNm t.1.data.toList = true ∧ ((gY y t = y ∧ t.1 = nm) ∨ gY y t = .mk t.1 [] ∨ ∃ j, j < k ∧ gY y t = .mk ⟨(nthS j).toArray⟩ [] ∧ nthS j ∉ tk)
theorem BInv.mono {tk : List (List UInt8)} {nm : ByteArray} {y : Wd} {k k' : Nat} {bs : List BT} (h : BInv tk nm y k bs) (hk : k ≤ k') : BInv tk nm y k' bs := fun t ht => by
  obtain ⟨h1, h2 | h2 | ⟨j, h2, h3⟩⟩ := h t ht
  · exact ⟨h1, Or.inl h2⟩
  · exact ⟨h1, Or.inr (Or.inl h2)⟩
  · exact ⟨h1, Or.inr (Or.inr ⟨j, by omega, h3⟩)⟩
theorem lastB_mem {bs : List BT} {g : BT → Wd} {n : ByteArray} {y : Wd} (h : lastB bs g n = some y) : ∃ t ∈ bs, t.1 = n ∧ g t = y := by
  unfold lastB at h; obtain ⟨t, h1, h2⟩ := Option.map_eq_some_iff.1 h; (exact ⟨t, List.mem_reverse.1 (List.mem_of_find?_eq_some h1), by simpa using List.find?_some h1, h2⟩)
/-- The names are a word's or a big name. -/
def NmOk (n : ByteArray) : Prop := isNm n.data.toList = true ∨ isBg n.data.toList = true
mutual
def WNm : Wd → Prop
  | .mk n ar => NmOk n ∧ WNms ar
def WNms : List Wd → Prop
  | [] => True
  | x :: l => WNm x ∧ WNms l
end
mutual
/-- The names of the words are names; bound ones are variables. -/
def ENm : Ex → Prop
  | .mk k n ws ks => WNms ws ∧ (quanB k = true → isNm n.data.toList = true) ∧ ENms ks
def ENms : List Ex → Prop
  | [] => True
  | x :: l => ENm x ∧ ENms l
end
mutual
theorem wchk_names : ∀ (x : Wd) (s : Nat) (p f : PlF) (s' : Nat) (p' f' : PlF), wchk x s p f = .ok s' p' f' → WNm x
  | .mk n ar, s, p, f, s', p', f', h => by
    rw [wchk] at h
    split at h
    · cases h
    · split at h
      · cases h
      · rename_i h1
        have hn : NmOk n := by
          unfold wnodeF at h1
          split at h1
          · cases h1
          · rename_i h2
            rcases ha : isNm n.data.toList with _ | _
            · rcases hb : isBg n.data.toList with _ | _
              · exact absurd ⟨ha, hb⟩ h2
              · exact Or.inr hb
            · exact Or.inl ha
        rw [WNm]
        split at h
        · split at h
          · cases h
          · exact ⟨hn, wchks_names ar _ _ _ _ _ _ h⟩
        · exact ⟨hn, wchks_names ar _ _ _ _ _ _ h⟩
theorem wchks_names : ∀ (l : List Wd) (s : Nat) (p f : PlF) (s' : Nat) (p' f' : PlF), wchks l s p f = .ok s' p' f' → WNms l
  | [], _, _, _, _, _, _, _ => by rw [WNms]; trivial
  | x :: xs, s, p, f, s', p', f', h => by
    rw [wchks] at h
    split at h
    · cases h
    · rename_i h1
      rw [WNms]; exact ⟨wchk_names x _ _ _ _ _ _ h1, wchks_names xs _ _ _ _ _ _ h⟩
end
mutual
theorem echk_names : ∀ (x : Ex) (s : Nat) (p f : PlF) (s' : Nat) (p' f' : PlF), echk x s p f = .ok s' p' f' → ENm x
  | .mk k n ws ks, s, p, f, s', p', f', h => by
    rw [echk] at h
    split at h
    · cases h
    · split at h
      · cases h
      · rename_i hn
        split at h
        · cases h
        · split at h
          · cases h
          · rename_i h2
            rw [ENm]; (refine ⟨wchks_names ws _ _ _ _ _ _ h2, fun hq => ?_, echks_names ks _ _ _ _ _ _ h⟩); obtain ⟨-, -, -, h4⟩ := enode_kids hn; unfold enameB at h4; (rw [if_neg (fun e => by rw [e] at hq; exact absurd hq (by decide)), if_pos hq] at h4); exact h4
theorem echks_names : ∀ (l : List Ex) (s : Nat) (p f : PlF) (s' : Nat) (p' f' : PlF), echks l s p f = .ok s' p' f' → ENms l
  | [], _, _, _, _, _, _, _ => by rw [ENms]; trivial
  | x :: xs, s, p, f, s', p', f', h => by
    rw [echks] at h
    split at h
    · cases h
    · rename_i h1
      rw [ENms]; exact ⟨echk_names x _ _ _ _ _ _ h1, echks_names xs _ _ _ _ _ _ h⟩
end
mutual
theorem frW_nm {t : List UInt8} : ∀ x : Wd, WNm x → FrW t x → isNm t = true ∨ isBg t = true
  | .mk n ar, h, hf => by
    rw [WNm] at h; rw [FrW] at hf
    rcases hf with rfl | hf
    · exact h.1
    · exact frWs_nm ar h.2 hf
theorem frWs_nm {t : List UInt8} : ∀ l : List Wd, WNms l → FrWs t l → isNm t = true ∨ isBg t = true
  | [], _, hf => by rw [FrWs] at hf; exact hf.elim
  | x :: l, h, hf => by
    rw [WNms] at h; rw [FrWs] at hf
    rcases hf with hf | hf
    · exact frW_nm x h.1 hf
    · exact frWs_nm l h.2 hf
end
mutual
theorem frE_nm {t : List UInt8} : ∀ x : Ex, ENm x → FrE t x → isNm t = true ∨ isBg t = true
  | .mk k n ws ks, h, hf => by
    rw [ENm] at h; rw [FrE] at hf
    rcases hf with hf | hf
    · exact frWs_nm ws h.1 hf
    · exact frEs_nm ks h.2.2 hf.2
theorem frEs_nm {t : List UInt8} : ∀ l : List Ex, ENms l → FrEs t l → isNm t = true ∨ isBg t = true
  | [], _, hf => by rw [FrEs] at hf; exact hf.elim
  | x :: l, h, hf => by
    rw [ENms] at h; rw [FrEs] at hf
    rcases hf with hf | hf
    · exact frE_nm x h.1 hf
    · exact frEs_nm l h.2 hf
end
mutual
theorem frW_vrs {t : List UInt8} (ht : isNm t = true) : ∀ x : Wd, FrW t x ↔ t ∈ vrs (prW x)
  | .mk n ar => by
    rw [FrW, prW, show Wd.mk n ar :: prWs ar = [Wd.mk n ar] ++ prWs ar from rfl, vrs_app, List.mem_append, ← frWs_vrs ht ar]; refine or_congr ?_ Iff.rfl; show _ ↔ t ∈ ([n.data.toList].filter isNm); rw [List.mem_filter, List.mem_singleton]; (exact ⟨fun e => ⟨e.symm, ht⟩, fun e => e.1.symm⟩)
theorem frWs_vrs {t : List UInt8} (ht : isNm t = true) : ∀ l : List Wd, FrWs t l ↔ t ∈ vrs (prWs l)
  | [] => by rw [FrWs, prWs]; show _ ↔ t ∈ []; simp
  | x :: l => by rw [FrWs, prWs, vrs_app, List.mem_append, ← frWs_vrs ht l, ← frW_vrs ht x]
end
theorem vrs_nm {t : List UInt8} {l : List Wd} (h : t ∈ vrs l) : isNm t = true := (List.mem_filter.1 h).2
mutual
theorem frE_fre {t : List UInt8} : ∀ (bd : Bd) (x : Ex), t ∈ fre (prE bd x) ↔ isNm t = true ∧ t ∉ bd ∧ FrE t x
  | bd, .mk k n ws ks => by
    rw [prE, fre, List.mem_append, frEs_fre (bdIn bd k n) ks, FrE]
    have h1 : t ∈ freP (Ex.mk k n ws ks, bd) ↔ isNm t = true ∧ t ∉ bd ∧ FrWs t ws := by
      unfold freP; rw [List.mem_filter]; show t ∈ vrs (prWs ws) ∧ _ ↔ _
      constructor
      · rintro ⟨h1, h2⟩
        (exact ⟨vrs_nm h1, by simpa using h2, (frWs_vrs (vrs_nm h1) ws).2 h1⟩)
      · rintro ⟨h1, h2, h3⟩
        (exact ⟨(frWs_vrs h1 ws).1 h3, by simpa using h2⟩)
    rw [h1]; unfold bdIn
    rcases hq : quanB k with _ | _
    · simp only [Bool.false_eq_true, if_false, false_implies, true_and]
      constructor
      · rintro (⟨a, b, c⟩ | ⟨a, b, c⟩)
        · exact ⟨a, b, Or.inl c⟩
        · exact ⟨a, b, Or.inr c⟩
      · rintro ⟨a, b, c | c⟩
        · exact Or.inl ⟨a, b, c⟩
        · exact Or.inr ⟨a, b, c⟩
    · simp only [if_true, true_implies, List.mem_append, List.mem_singleton, not_or]
      constructor
      · rintro (⟨a, b, c⟩ | ⟨a, b, c⟩)
        · exact ⟨a, b, Or.inl c⟩
        · exact ⟨a, b.1, Or.inr ⟨fun e => b.2 e.symm, c⟩⟩
      · rintro ⟨a, b, c | c⟩
        · exact Or.inl ⟨a, b, c⟩
        · exact Or.inr ⟨a, ⟨b, fun e => c.1 e.symm⟩, c.2⟩
theorem frEs_fre {t : List UInt8} : ∀ (bd : Bd) (l : List Ex), t ∈ fre (prEs bd l) ↔ isNm t = true ∧ t ∉ bd ∧ FrEs t l
  | bd, [] => by rw [prEs, fre, FrEs]; simp
  | bd, x :: l => by
    rw [prEs, fre_app, List.mem_append, frE_fre bd x, frEs_fre bd l, FrEs]
    constructor
    · rintro (⟨a, b, c⟩ | ⟨a, b, c⟩)
      · exact ⟨a, b, Or.inl c⟩
      · exact ⟨a, b, Or.inr c⟩
    · rintro ⟨a, b, c | c⟩
      · exact Or.inl ⟨a, b, c⟩
      · exact Or.inr ⟨a, b, c⟩
end
mutual
theorem frE_avs {t : List UInt8} (ht : isNm t = true) : ∀ (bd : Bd) (x : Ex), FrE t x → t ∈ avs (prE bd x)
  | bd, .mk k n ws ks, h => by
    rw [FrE] at h; rw [prE, avs, List.mem_append]
    rcases h with h | h
    · refine Or.inl ?_
      unfold avP; exact List.mem_append.2 (Or.inl ((frWs_vrs ht ws).1 h))
    · exact Or.inr (frEs_avs ht _ ks h.2)
theorem frEs_avs {t : List UInt8} (ht : isNm t = true) : ∀ (bd : Bd) (l : List Ex), FrEs t l → t ∈ avs (prEs bd l)
  | _, [], h => by rw [FrEs] at h; exact h.elim
  | bd, x :: l, h => by
    rw [FrEs] at h; rw [prEs, avs_app, List.mem_append]
    rcases h with h | h
    · exact Or.inl (frE_avs ht bd x h)
    · exact Or.inr (frEs_avs ht bd l h)
end
mutual
/-- What stands in an expression does not hang on what is bound around it. -/
theorem avs_bd : ∀ (bd bd' : Bd) (x : Ex), avs (prE bd x) = avs (prE bd' x)
  | bd, bd', .mk k n ws ks => by
    rw [prE, prE, avs, avs, avss_bd (bdIn bd k n) (bdIn bd' k n) ks]; rfl
theorem avss_bd : ∀ (bd bd' : Bd) (l : List Ex), avs (prEs bd l) = avs (prEs bd' l)
  | _, _, [] => by rw [prEs, prEs]
  | bd, bd', x :: l => by rw [prEs, prEs, avs_app, avs_app, avs_bd bd bd' x, avss_bd bd bd' l]
end
end Go.Proofs.YtblodnpfckflaakGreat
/- Plain: the substitution lemma, for what first.putter.expr answers. -/
namespace Go.Proofs.YtblodnpfckflaakGreat
open Go.RowKit Go.Sort Go.Maps Go.WideMaps

theorem bnF_ge (nm : ByteArray) (cg tk : List (List UInt8)) (k : Nat) (x : Ex) (n : ByteArray) : k ≤ (bnF nm cg tk k x n).2 := by
  unfold bnF
  split
  · have := (nxF_ge [] tk (tk.length + 1) k).1
    show k ≤ _ + 1; omega
  · exact Nat.le_refl _
mutual
theorem pxF_ge (nm : ByteArray) (y : Wd) (cg tk : List (List UInt8)) : ∀ (x : Ex) (bs : List BT) (k : Nat), k ≤ (pxF nm y cg tk x bs k).2
  | .mk kd n ws ks, bs, k => by
    rw [pxF]
    split
    · exact Nat.le_trans (bnF_ge nm cg tk k _ n) (pxFs_ge nm y cg tk ks _ _)
    · exact pxFs_ge nm y cg tk ks bs k
theorem pxFs_ge (nm : ByteArray) (y : Wd) (cg tk : List (List UInt8)) : ∀ (l : List Ex) (bs : List BT) (k : Nat), k ≤ (pxFs nm y cg tk l bs k).2
  | [], bs, k => by rw [pxFs]; exact Nat.le_refl _
  | x :: l, bs, k => by
    rw [pxFs]; exact Nat.le_trans (pxF_ge nm y cg tk x bs k) (pxFs_ge nm y cg tk l bs _)
end
theorem low_nthS : ∀ (n : Nat), ∃ c l, nthS n = c :: l ∧ 97 ≤ c.toNat ∧ c.toNat ≤ 122 := fun n => by
  have h1 := (nthS_len (n + 1) n (Nat.lt_succ_self n)).2
  rcases h : nthS n with _ | ⟨c, l⟩
  · rw [h] at h1; simp at h1
  · exact ⟨c, l, rfl, nthS_let (n + 1) n (Nat.lt_succ_self n) c (by rw [h]; exact List.mem_cons_self ..)⟩
theorem nthS_noBg (n : Nat) : isBg (nthS n) = false := by
  obtain ⟨c, l, h, h1, h2⟩ := low_nthS n; rw [h]
  rcases hb : isBg (c :: l) with _ | _
  · rfl
  · unfold isBg capB at hb
    simp only [Bool.and_eq_true, decide_eq_true_eq] at hb; omega
theorem nm_noBg {t : List UInt8} (h : isNm t = true) : isBg t = false := by
  rcases t with _ | ⟨c, l⟩
  · rfl
  · rcases hb : isBg (c :: l) with _ | _
    · rfl
    · unfold isBg capB at hb
      simp only [Bool.and_eq_true, decide_eq_true_eq] at hb; unfold isNm letters lower at h; (rw [if_neg (by simp; omega)] at h); simp at h
theorem gY_new (y : Wd) (a n : ByteArray) : gY y (a, n, .slice none 0 0) = .mk n [] := rfl
/-- A step of the substitution lemma: the bound variable's own name. -/
theorem bn_step {nm : ByteArray} {y : Wd} {cg tk : List (List UInt8)} {k : Nat} {bs : List BT} {kd : Int} {n : ByteArray} {ws : List Wd} {ks : List Ex} (hI : BInv tk nm y k bs) (hq : quanB kd = true) (hy : WNm y) (hcg : ∀ t, isNm t = true → FrW t y → t ∈ cg ∧ t ∈ tk) (hx : ENm (.mk kd n ws ks)) (hnm : isNm nm.data.toList = true) (htk : ∀ t ∈ avs (prE [] (.mk kd n ws ks)), t ∈ tk)
    (p : ByteArray × Nat) (hp : bnF nm cg tk k (.mk kd n ws ks) n = p) :
    BInv tk nm y p.2 (bs ++ [(n, p.1, .slice none 0 0)]) ∧ isBg p.1.data.toList = false ∧
    (∀ t : ByteArray, FrEs t.data.toList ks → t ≠ n → lastB bs (gY y) t = none → t.data.toList ≠ p.1.data.toList) ∧ (∀ (t : ByteArray) wd, FrEs t.data.toList ks → t ≠ n → lastB bs (gY y) t = some wd → ¬ FrW p.1.data.toList wd) := by
  (have hn : isNm n.data.toList = true := by rw [ENm] at hx; exact hx.2.1 hq); (have hks : ENms ks := by rw [ENm] at hx; exact hx.2.2)
  have htk2 : ∀ t : List UInt8, isNm t = true → FrEs t ks → t ∈ tk := fun t h1 h2 => htk t (by
    rw [prE, avs, List.mem_append]
    exact Or.inr (frEs_avs h1 _ ks h2))
  have hntk : n.data.toList ∈ tk := htk _ (by
    rw [prE, avs, List.mem_append]; refine Or.inl ?_; unfold avP; (show _ ∈ _ ++ (if quanB kd = true then [n.data.toList] else [])); rw [if_pos hq]
    simp)
  unfold bnF at hp
  split at hp
  · subst hp
    have hfr := nxF_free [] tk k; rw [List.nil_append] at hfr; have hge := (nxF_ge [] tk (tk.length + 1) k).1; generalize nxF [] tk (tk.length + 1) k = q at *; have hno := nthS_noBg q; (refine ⟨fun t ht => ?_, hno, fun t ht hne hl e => ?_, fun t wd ht hne hl hf => ?_⟩)
    · rcases List.mem_append.1 ht with h | h
      · exact hI.mono (k' := q + 1) (by omega) t h
      · obtain rfl := List.mem_singleton.1 h
        exact ⟨hn, Or.inr (Or.inr ⟨q, Nat.lt_succ_self q, gY_new .., hfr⟩)⟩
    · have e2 : t.data.toList = nthS q := e
      rw [e2] at ht
      rcases frEs_nm ks hks ht with h | h
      · exact hfr (htk2 _ h ht)
      · rw [hno] at h; cases h
    · have hf2 : FrW (nthS q) wd := hf
      obtain ⟨b, hb, rfl, hg⟩ := lastB_mem hl; obtain ⟨h1, ⟨h2, -⟩ | h2 | ⟨j, hj, h2, h3⟩⟩ := hI b hb
      · rw [← hg, h2] at hf2
        rcases frW_nm y hy hf2 with h | h
        · exact hfr (hcg _ h hf2).2
        · rw [hno] at h; cases h
      · rw [← hg, h2, FrW, FrWs] at hf2
        (have e : b.1.data.toList = nthS q := by simpa using hf2); exact hfr (e ▸ htk2 _ h1 ht)
      · rw [← hg, h2, FrW, FrWs] at hf2
        (have e : nthS j = nthS q := by simpa using hf2); have := nthS_inj (j + 1) j q (Nat.lt_succ_self j) e; omega
  · rename_i hc
    subst hp; (refine ⟨fun t ht => ?_, nm_noBg hn, fun t ht hne hl e => ?_, fun t wd ht hne hl hf => ?_⟩)
    · rcases List.mem_append.1 ht with h | h
      · exact hI t h
      · obtain rfl := List.mem_singleton.1 h
        exact ⟨hn, Or.inr (Or.inl (gY_new ..))⟩
    · exact hne (by rw [← str_eta t, ← str_eta n]; rw [show t.data.toList = n.data.toList from e])
    · have hf2 : FrW n.data.toList wd := hf
      obtain ⟨b, hb, rfl, hg⟩ := lastB_mem hl; obtain ⟨h1, ⟨h2, h4⟩ | h2 | ⟨j, hj, h2, h3⟩⟩ := hI b hb
      · rw [← hg, h2] at hf2
        refine hc ⟨(hcg _ hn hf2).1, ?_⟩; rw [frE_fre]; (refine ⟨hnm, by simp, ?_⟩); rw [FrE]; rw [h4] at ht hne; (exact Or.inr ⟨fun _ e => hne (by rw [← str_eta nm, ← str_eta n, e]), ht⟩)
      · rw [← hg, h2, FrW, FrWs] at hf2
        (have e : b.1.data.toList = n.data.toList := by simpa using hf2); (exact hne (by rw [← str_eta b.1, ← str_eta n, e]))
      · rw [← hg, h2, FrW, FrWs] at hf2
        (have e : nthS j = n.data.toList := by simpa using hf2); exact h3 (e ▸ hntk)
theorem binv_fn {V : VwD} (hV : ∀ t f, V.fn t = some f → isBg t = true) {tk : List (List UInt8)} {nm : ByteArray} {y : Wd} {k : Nat} {bs : List BT} (hI : BInv tk nm y k bs) (n : ByteArray) (z : Wd) (h : lastB bs (gY y) n = some z) : V.fn n.data.toList = none := by
  obtain ⟨b, hb, rfl, -⟩ := lastB_mem h
  rcases hf : V.fn b.1.data.toList with _ | f
  · rfl
  · have h1 := hV _ _ hf
    rw [nm_noBg (hI b hb).1] at h1
    cases h1
mutual
theorem ev_px {V : VwD} (hV : ∀ t f, V.fn t = some f → isBg t = true) {nm : ByteArray} {y : Wd} {cg tk : List (List UInt8)} (hnm : isNm nm.data.toList = true) (hy : WNm y) (hcg : ∀ t, isNm t = true → FrW t y → t ∈ cg ∧ t ∈ tk) :
    ∀ (x : Ex) (bs : List BT) (k : Nat) (va : List UInt8 → Nat), BInv tk nm y k bs → ENm x → (∀ t ∈ avs (prE [] x), t ∈ tk) → ev V (pxF nm y cg tk x bs k).1 va = ev V x (vaS V va (lastB bs (gY y)))
  | .mk kd n ws ks, bs, k, va, hI, hx, htk => by
    have hx' := hx; rw [ENm] at hx'; (have hb := fun n z h => binv_fn hV hI n z h)
    have hks : ∀ t ∈ avs (prEs [] ks), t ∈ tk := fun t ht => htk t (by
      rw [prE, avs, List.mem_append, avss_bd (bdIn [] kd n) [] ks]
      exact Or.inr ht)
    have h2 : w2F V va (puWs (lastB bs (gY y)) ws) = w2F V (vaS V va (lastB bs (gY y))) ws := by
      rcases ws with _ | ⟨a, _ | ⟨b, l⟩⟩
      · rw [puWs]
        rfl
      · rw [puWs, puWs]
        rfl
      · rw [puWs, puWs]
        show (_ == _) = (_ == _); rw [wv_pu va _ hb a, wv_pu va _ hb b]
    rw [pxF]
    split
    · rename_i hq
      obtain ⟨hI2, hbg, hA, hB⟩ := bn_step hI hq hy hcg hx hnm htk _ rfl; generalize bnF nm cg tk k (.mk kd n ws ks) n = p at *; show ev V (.mk kd p.1 _ _) va = ev V (.mk kd n ws ks) _; rw [ev, ev]; (refine evN_congr p.1.data.toList (fun e => by rw [hq] at e; cases e) (wpl_pu va _ hb ws) h2 (fun e => by rw [hq] at e; cases e) (fun _ d => ?_)); have ih := evs_px hV hnm hy hcg ks (bs ++ [(n, p.1, .slice none 0 0)]) p.2 (vset va p.1.data.toList d) hI2 hx'.2.2 hks 0; rw [ih]; (refine evxs_congr ks _ _ (fun t ht => ?_) 0)
      have hfp : V.fn p.1.data.toList = none := by
        rcases hf : V.fn p.1.data.toList with _ | f
        · rfl
        · have := hV _ _ hf
          rw [hbg] at this
          cases this
      (have et : (⟨t.toArray⟩ : ByteArray).data.toList = t := by simp); rw [← et] at ht ⊢; generalize (⟨t.toArray⟩ : ByteArray) = tb at *; by_cases e : tb = n
      · subst e
        (rw [vset_eq, vaS_some (y := .mk p.1 []) (by rw [lastB_app, if_pos rfl, gY_new]), wv, hfp]); exact vset_eq
      · have e' : tb.data.toList ≠ n.data.toList := fun h => e (by rw [← str_eta tb, ← str_eta n, h])
        (have el : lastB (bs ++ [(n, p.1, .slice none 0 0)]) (gY y) tb = lastB bs (gY y) tb := by rw [lastB_app, if_neg (fun h => e h.symm)]); rw [vset_ne e']
        rcases hl : lastB bs (gY y) tb with _ | wd
        · rw [vaS_none (by rw [el, hl]), vaS_none hl, vset_ne (hA tb ht e hl)]
        · rw [vaS_some (by rw [el, hl]), vaS_some hl]
          (exact wv_congr wd fun t2 ht2 => vset_ne fun e2 => hB tb wd ht e hl (e2 ▸ ht2))
    · rename_i hq
      (have hq' : quanB kd = false := by simpa using hq); show ev V (.mk kd n _ _) va = ev V (.mk kd n ws ks) _; rw [ev, ev]; (exact evN_congr n.data.toList (fun _ => rfl) (wpl_pu va _ hb ws) h2 (fun _ i => evs_px hV hnm hy hcg ks bs k va hI hx'.2.2 hks i) (fun e => by rw [hq'] at e; cases e))
theorem evs_px {V : VwD} (hV : ∀ t f, V.fn t = some f → isBg t = true) {nm : ByteArray} {y : Wd} {cg tk : List (List UInt8)} (hnm : isNm nm.data.toList = true) (hy : WNm y) (hcg : ∀ t, isNm t = true → FrW t y → t ∈ cg ∧ t ∈ tk) :
    ∀ (l : List Ex) (bs : List BT) (k : Nat) (va : List UInt8 → Nat), BInv tk nm y k bs → ENms l → (∀ t ∈ avs (prEs [] l), t ∈ tk) → ∀ i, kidF (evs V (pxFs nm y cg tk l bs k).1) i va = kidF (evs V l) i (vaS V va (lastB bs (gY y)))
  | [], bs, k, va, _, _, _, i => by rw [pxFs, evs]; rfl
  | x :: l, bs, k, va, hI, hx, htk, i => by
    rw [ENms] at hx; rw [prEs, avs_app] at htk; rw [pxFs]; show kidF (evs V ((pxF nm y cg tk x bs k).1 :: (pxFs nm y cg tk l bs _).1)) i va = _; rw [evs, evs]
    cases i with
    | zero => exact ev_px hV hnm hy hcg x bs k va hI hx.1 fun t ht => htk t (List.mem_append.2 (Or.inl ht))
    | succ i => exact evs_px hV hnm hy hcg l bs _ va (hI.mono (pxF_ge nm y cg tk x bs k)) hx.2 (fun t ht => htk t (List.mem_append.2 (Or.inr ht))) i
end
/-- One word put, as a whole. -/
theorem ev_put {V : VwD} (hV : ∀ t f, V.fn t = some f → isBg t = true) {nm : ByteArray} {y : Wd} (hnm : isNm nm.data.toList = true) (hy : WNm y) (x : Ex) (hx : ENm x) (t0 : BT) (h0 : t0.1 = nm) (hg : gY y t0 = y) (va : List UInt8 → Nat) :
    ev V (pxF nm y (vrs (prWs [y])) (avs (prE [] x) ++ vrs (prWs [y])) x [t0] 0).1 va = ev V x (vset va nm.data.toList (wv V va y)) := by
  (rw [ev_px hV hnm hy (fun t h1 h2 => ?_) x [t0] 0 va (fun t ht => ?_) hx (fun t ht => List.mem_append.2 (Or.inl ht))])
  · refine evx_congr x _ _ fun t _ => ?_
    unfold vaS lastB vset; simp only [List.reverse_singleton, List.find?_singleton]; by_cases e : t = nm.data.toList
    · subst e
      (rw [if_pos (by simp [h0]), if_pos rfl]); show wv V va (gY y t0) = _; rw [hg]
    · rw [if_neg (fun h => e (by
        (have h2 : t0.1 = ⟨t.toArray⟩ := by simpa using h)
        rw [← h0, h2])), if_neg e]
      rfl
  · have h3 : t ∈ vrs (prWs [y]) := by rw [prWs, prWs, List.append_nil]; exact (frW_vrs h1 y).1 h2
    exact ⟨h3, List.mem_append.2 (Or.inr h3)⟩
  · obtain rfl := List.mem_singleton.1 ht
    exact ⟨h0 ▸ hnm, Or.inl ⟨hg, h0⟩⟩
/-- What stands free in what comes out. -/
def ToW (h : ByteArray → Option Wd) (t0 : List UInt8) (t : List UInt8) : Prop := match h ⟨t0.toArray⟩ with
  | some y => FrW t y
  | none => t = t0
mutual
theorem frW_pu {t : List UInt8} (h : ByteArray → Option Wd) : ∀ x : Wd, FrW t (puW h x) → ∃ t0, FrW t0 x ∧ ToW h t0 t
  | .mk n ar, hf => by
    rw [puW] at hf
    cases e : h n with
    | some y =>
      rw [e] at hf; (refine ⟨n.data.toList, by rw [FrW]; exact Or.inl rfl, ?_⟩); unfold ToW; rw [str_eta, e]
      exact hf
    | none =>
      rw [e] at hf; simp only [FrW] at hf
      rcases hf with hf | hf
      · refine ⟨n.data.toList, by rw [FrW]; exact Or.inl rfl, ?_⟩
        unfold ToW; rw [str_eta, e]; exact hf.symm
      · obtain ⟨t0, h1, h2⟩ := frWs_pu h ar hf
        (exact ⟨t0, by rw [FrW]; exact Or.inr h1, h2⟩)
theorem frWs_pu {t : List UInt8} (h : ByteArray → Option Wd) : ∀ l : List Wd, FrWs t (puWs h l) → ∃ t0, FrWs t0 l ∧ ToW h t0 t
  | [], hf => by rw [puWs, FrWs] at hf; exact hf.elim
  | x :: l, hf => by
    rw [puWs, FrWs] at hf
    rcases hf with hf | hf
    · obtain ⟨t0, h1, h2⟩ := frW_pu h x hf
      (exact ⟨t0, by rw [FrWs]; exact Or.inl h1, h2⟩)
    · obtain ⟨t0, h1, h2⟩ := frWs_pu h l hf
      (exact ⟨t0, by rw [FrWs]; exact Or.inr h1, h2⟩)
end
mutual
theorem frE_px {nm : ByteArray} {y : Wd} {cg tk : List (List UInt8)} {t : List UInt8} : ∀ (x : Ex) (bs : List BT) (k : Nat), FrE t (pxF nm y cg tk x bs k).1 → ∃ t0, FrE t0 x ∧ ToW (lastB bs (gY y)) t0 t
  | .mk kd n ws ks, bs, k, hf => by
    rw [pxF] at hf
    split at hf
    · rename_i hq
      generalize bnF nm cg tk k (.mk kd n ws ks) n = p at *; simp only [FrE] at hf
      rcases hf with hf | ⟨h1, hf⟩
      · obtain ⟨t0, h2, h3⟩ := frWs_pu _ ws hf
        (exact ⟨t0, by rw [FrE]; exact Or.inl h2, h3⟩)
      · obtain ⟨t0, h2, h3⟩ := frEs_px ks _ _ hf
        have h1' := h1 hq; unfold ToW at h3; rw [lastB_app] at h3; by_cases e : n = ⟨t0.toArray⟩
        · rw [if_pos e, gY_new] at h3
          simp only [FrW, FrWs] at h3; exact absurd (h3.resolve_right id) h1'
        · rw [if_neg e] at h3
          (exact ⟨t0, by rw [FrE]; exact Or.inr ⟨fun _ e2 => e (by rw [← e2, str_eta]), h2⟩, h3⟩)
    · rename_i hq
      simp only [FrE] at hf
      rcases hf with hf | ⟨h1, hf⟩
      · obtain ⟨t0, h2, h3⟩ := frWs_pu _ ws hf
        (exact ⟨t0, by rw [FrE]; exact Or.inl h2, h3⟩)
      · obtain ⟨t0, h2, h3⟩ := frEs_px ks _ _ hf
        (exact ⟨t0, by rw [FrE]; exact Or.inr ⟨fun e => absurd e hq, h2⟩, h3⟩)
theorem frEs_px {nm : ByteArray} {y : Wd} {cg tk : List (List UInt8)} {t : List UInt8} : ∀ (l : List Ex) (bs : List BT) (k : Nat), FrEs t (pxFs nm y cg tk l bs k).1 → ∃ t0, FrEs t0 l ∧ ToW (lastB bs (gY y)) t0 t
  | [], bs, k, hf => by rw [pxFs, FrEs] at hf; exact hf.elim
  | x :: l, bs, k, hf => by
    rw [pxFs] at hf; simp only [FrEs] at hf
    rcases hf with hf | hf
    · obtain ⟨t0, h2, h3⟩ := frE_px x _ _ hf
      (exact ⟨t0, by rw [FrEs]; exact Or.inl h2, h3⟩)
    · obtain ⟨t0, h2, h3⟩ := frEs_px l _ _ hf
      (exact ⟨t0, by rw [FrEs]; exact Or.inr h2, h3⟩)
end
/-- Of one word put: what is free then was free, and is not the variable, or stands in the word. -/
theorem fr_put {nm : ByteArray} {y : Wd} {cg tk : List (List UInt8)} (x : Ex) (t0 : BT) (h0 : t0.1 = nm) (hg : gY y t0 = y) {t : List UInt8} (h : FrE t (pxF nm y cg tk x [t0] 0).1) : (FrE t x ∧ t ≠ nm.data.toList) ∨ (FrE nm.data.toList x ∧ FrW t y) := by
  obtain ⟨a, h1, h2⟩ := frE_px x [t0] 0 h; unfold ToW lastB at h2; simp only [List.reverse_singleton, List.find?_singleton] at h2; by_cases e : a = nm.data.toList
  · subst e
    (rw [if_pos (by simp [h0])] at h2); have h3 : FrW t (gY y t0) := h2; rw [hg] at h3; exact Or.inr ⟨h1, h3⟩
  · rw [if_neg (fun h => e (by
      (have h2 : t0.1 = ⟨a.toArray⟩ := by simpa using h)
      rw [← h0, h2]))] at h2
    have h3 : t = a := h2; rw [h3]; exact Or.inl ⟨h1, e⟩
end Go.Proofs.YtblodnpfckflaakGreat
