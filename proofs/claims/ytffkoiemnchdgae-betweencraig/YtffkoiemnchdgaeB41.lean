/- Texts of one proof, one behind the other: BM2. -/
import Derived.Test.YtffkoiemnchdgaeB39
import Derived.Test.YtffkoiemnchdgaeB27
import Derived.Test.YtffkoiemnchdgaeB38
/- Between formulas, the plain part: rows and values. -/
namespace Go.Proofs.Ytffkoiemnchdgae
open Go.RowKit Go.Sort

theorem nodup_leB : ∀ {l m : List (List UInt8)}, l.Nodup → (∀ t ∈ l, t ∈ m) → l.length ≤ m.length
  | [], m, _, _ => by simp
  | t :: l, m, hn, hs => by
    obtain ⟨h1, h2⟩ := List.nodup_cons.1 hn; (have hm := hs t (by simp))
    have h3 : l.length ≤ (m.erase t).length := nodup_leB h2 fun x hx => by
      (have hne : x ≠ t := fun e => h1 (by rw [← e]; exact hx)); (exact (List.mem_erase_of_ne hne).2 (hs x (by simp [hx])))
    rw [List.length_erase_of_mem hm] at h3; have : 0 < m.length := List.length_pos_of_mem hm; simp only [List.length_cons]; omega
theorem tvL_filter {f : Fm} (hf : Fine f) {l : List (List UInt8)} (hl : ∀ t ∈ nmsT f, t ∈ l) (q : List UInt8 → Bool) : tvL f (l.filter q) = tv q f :=
  tv_congr _ _ f.size f (Nat.le_refl _) hf fun t ht => by
    have := hl t ht
    cases hq : q t <;> simp [List.mem_filter, this, hq]
theorem tvL_rows {f : Fm} (hf : Fine f) {l : List (List UInt8)} (hn : l.Nodup) (hl : ∀ t ∈ nmsT f, t ∈ l) (r : Nat) : tvL f (rowN r l 0) = tv (colP r l) f := tv_row hf l hn hl r
theorem tv_same {f : Fm} (hf : Fine f) {p q : List UInt8 → Bool} (h : ∀ t ∈ nmsT f, p t = q t) : tv p f = tv q f := tv_congr p q f.size f (Nat.le_refl _) hf h
theorem makesB_val {f g : Fm} (hf : Fine f) (hg : Fine g) {l : List (List UInt8)} (hn : l.Nodup) (h1 : ∀ t ∈ nmsT f, t ∈ l) (h2 : ∀ t ∈ nmsT g, t ∈ l) : makesB f g l = true ↔ ∀ q, tv q f = true → tv q g = true := by
  rw [makesB_iff]
  constructor
  · intro h q hq
    obtain ⟨r, hr, hc⟩ := row_with hn q; (have e1 : tvL f (rowN r l 0) = tv q f := (tvL_rows hf hn h1 r).trans (tv_same hf fun t ht => hc t (h1 t ht))); (have e2 : tvL g (rowN r l 0) = tv q g := (tvL_rows hg hn h2 r).trans (tv_same hg fun t ht => hc t (h2 t ht))); (have := h r hr (by rw [e1]; exact hq))
    rwa [e2] at this
  · intro h k hk hq
    rw [tvL_rows hf hn h1] at hq; rw [tvL_rows hg hn h2]; exact h _ hq
theorem some_val {f g : Fm} (hf : Fine f) (hg : Fine g) {l : List (List UInt8)} (hn : l.Nodup) (h1 : ∀ t ∈ nmsT f, t ∈ l) (h2 : ∀ t ∈ nmsT g, t ∈ l) : someL (fun m => tvL f m && !tvL g m) l [] = true ↔ ∃ q, tv q f = true ∧ tv q g = false := by
  rw [someL_iff _ _ _ hn]
  constructor
  · rintro ⟨q, hq⟩
    rw [List.nil_append, tvL_filter hf h1, tvL_filter hg h2] at hq; (exact ⟨q, by simpa using hq⟩)
  · rintro ⟨q, hq⟩
    refine ⟨q, ?_⟩; rw [List.nil_append, tvL_filter hf h1, tvL_filter hg h2]; simpa using hq
/-- Names that are held, or put beside. -/
def mixQ (U : List (List UInt8)) (q q2 : List UInt8 → Bool) (t : List UInt8) : Bool := if t ∈ U then q t else q2 t
theorem projF_tv {f : Fm} (hp : f.pcode.1 = 0) (U : List (List UInt8)) (q : List UInt8 → Bool) : tv q (projF f U) = true ↔ ∃ q2, tv (mixQ U q q2) f = true := by
  have hf := (pc_fine hp).1; have hnm := nmsU_nm hf; unfold projF; (rw [writL_tv _ q _ _ (fun t ht => hnm t (List.mem_filter.1 ht).1), List.nil_append, someL_iff _ _ _ ((nmsU_nodup f).filter _)])
  have key : ∀ q2, tvL f (((nmsU f).filter fun t => decide (t ∈ U)).filter q ++ ((nmsU f).filter fun t => !decide (t ∈ U)).filter q2) = tv (mixQ U q q2) f := fun q2 => by
    (refine tv_same hf fun t ht => ?_); have hm := (nmsU_mem f t).2 ht; unfold mixQ; by_cases hu : t ∈ U
    · rw [if_pos hu]
      cases hq : q t <;> simp [List.mem_append, List.mem_filter, hm, hu, hq]
    · rw [if_neg hu]
      cases hq : q2 t <;> simp [List.mem_append, List.mem_filter, hm, hu, hq]
  constructor
  · rintro ⟨q2, h⟩; exact ⟨q2, by rw [← key]; exact h⟩
  · rintro ⟨q2, h⟩; exact ⟨q2, by rw [key]; exact h⟩
/-- The names that stay. -/
def keptN (f : Fm) (U : List (List UInt8)) : List (List UInt8) := (nmsU f).filter fun t => decide (t ∈ U)
theorem projF_made {f : Fm} (hp : f.pcode.1 = 0) (h6 : (nmsU f).length ≤ 6) (U : List (List UInt8)) : MadeF (keptN f U) 379 (projF f U) := by
  (have := writL_made (fun held => someL (tvL f) ((nmsU f).filter fun t => !decide (t ∈ U)) held) (keptN f U) [] (fun t ht => nmsU_nm (pc_fine hp).1 t (List.mem_filter.1 ht).1)); (exact this.mono (fun _ h => h) (wB_six (Nat.le_trans (List.length_filter_le _ _) h6)))
theorem nmsU_six {fs : List Fm} (h : (tgcode fs).1 = 0) {f : Fm} (hf : f ∈ fs) : (nmsU f).length ≤ 6 := by
  (refine Nat.le_trans (nodup_leB (nmsU_nodup f) (m := nmsF fs) fun t ht => ?_) (tg_few h)); rw [nmsF_mem]; exact ⟨f, hf, (nmsU_mem f t).1 ht⟩
theorem mixQ_self {f : Fm} (hf : Fine f) (U : List (List UInt8)) (q : List UInt8 → Bool) : tv (mixQ U q q) f = tv q f := tv_same hf fun t _ => by unfold mixQ; split <;> rfl
def zF : Fm := .mk 0 ⟨#[]⟩ []
/-- What Interpolate says. -/
def icode (f g : Fm) : Int × Int := if (tgcode [f, g]).1 = 0 then (if someL (fun l => tvL f l && !tvL g l) (nmsF [f, g]) [] = true then (7, 0) else (0, 0)) else tgcode [f, g]
def iF (f g : Fm) : Fm := if (icode f g).1 = 0 then projF f (nmsU g) else zF
theorem rep_zF (w : World) : Rep w (fun _ => True) zF (.agg #[.int .i64 0, .string ⟨#[]⟩, .slice none 0 0]) := Rep.leaf (by simp [maxLen, ByteArray.size])
theorem icode_ok {f g : Fm} (h : (icode f g).1 = 0) : (tgcode [f, g]).1 = 0 ∧ someL (fun l => tvL f l && !tvL g l) (nmsF [f, g]) [] = false ∧ icode f g = (0, 0) := by
  unfold icode at h ⊢
  split at h
  · rename_i h1
    split at h
    · cases h
    · rename_i h2; exact ⟨h1, by simpa using h2, by rw [if_pos h1, if_neg h2]⟩
  · rename_i h1; exact absurd h h1
theorem inter_any (f g : Fm) (v u : Value) (w : World) (hrep : Rep w (fun _ => True) f v) (hu : Rep w (fun _ => True) g u) :
    Calls Try.prog 14 #[v, u] w fun e w' => ∃ x, e = .returned (.tuple #[x, .agg #[.int .i64 (icode f g).1, .int .i64 (icode f g).2]]) ∧ Rep w' (fun _ => True) (iF f g) x ∧ Below w.heap.size w w' := by
  by_cases ht : (tgcode [f, g]).1 = 0
  · cases hs : someL (fun l => tvL f l && !tvL g l) (nmsF [f, g]) []
    · have hi : icode f g = (0, 0) := by unfold icode; rw [if_pos ht, hs]; rfl
      refine (inter_ok f g v u w hrep hu ht hs).mono ?_; rintro e w' ⟨x, rfl, hx, hb⟩; (refine ⟨x, by rw [hi], ?_, hb⟩); unfold iF; rw [hi, if_pos rfl]; exact hx
    · have hi : icode f g = (7, 0) := by unfold icode; rw [if_pos ht, hs]; rfl
      refine (inter_false f g v u w hrep hu ht hs).mono ?_; rintro e w' ⟨rfl, hb⟩; (refine ⟨_, by rw [hi], ?_, hb⟩); unfold iF; (rw [hi, if_neg (by decide)]; exact rep_zF w')
  · have hi : icode f g = tgcode [f, g] := by unfold icode; rw [if_neg ht]
    refine (inter_bad f g v u w hrep hu ht).mono ?_; rintro e w' ⟨rfl, hb⟩; (refine ⟨_, by rw [hi], ?_, hb⟩); unfold iF; rw [hi, if_neg ht]; exact rep_zF w'
theorem iF_off (f g : Fm) : OffOk (iF f g) := by
  unfold iF
  split
  · rename_i h
    have := (icode_ok h).1; (exact Or.inl (projF_made (tg_plain this (by simp)) (nmsU_six this (by simp)) _).fine)
  · exact Or.inr ⟨_, _, rfl⟩
/-- Craig's theorem, as the law asks it. -/
theorem craig_ok {f g : Fm} (h : (icode f g).1 = 0) : MadeF (keptN f (nmsU g)) 379 (iF f g) ∧ makesB f g (nmsF [f, g]) = true ∧ makesB f (iF f g) (nmsF [f, g]) = true ∧ makesB (iF f g) g (nmsF [f, g]) = true := by
  obtain ⟨ht, hs, -⟩ := icode_ok h; (have hp := tg_plain ht (f := f) (by simp)); (have hq := tg_plain ht (f := g) (by simp)); have hf := (pc_fine hp).1; have hg := (pc_fine hq).1; (have hm := projF_made hp (nmsU_six ht (by simp)) (nmsU g)); (have n1 : ∀ t ∈ nmsT f, t ∈ nmsF [f, g] := fun t ht => (nmsF_mem _ t).2 ⟨f, by simp, ht⟩); (have n2 : ∀ t ∈ nmsT g, t ∈ nmsF [f, g] := fun t ht => (nmsF_mem _ t).2 ⟨g, by simp, ht⟩); (have n3 : ∀ t ∈ nmsT (projF f (nmsU g)), t ∈ nmsF [f, g] := fun t ht => n1 t ((nmsU_mem f t).1 (List.mem_filter.1 (hm.names t ht)).1))
  have hfg : ∀ q, tv q f = true → tv q g = true := fun q hq => by
    cases hx : tv q g
    · have := (some_val hf hg (nmsF_nodup _) n1 n2).2 ⟨q, hq, hx⟩
      rw [hs] at this; cases this
    · rfl
  (have e : iF f g = projF f (nmsU g) := by unfold iF; rw [if_pos h]); rw [e]; (refine ⟨hm, (makesB_val hf hg (nmsF_nodup _) n1 n2).2 hfg, (makesB_val hf hm.fine (nmsF_nodup _) n1 n3).2 fun q h => ?_, (makesB_val hm.fine hg (nmsF_nodup _) n3 n2).2 fun q h => ?_⟩)
  · exact (projF_tv hp _ q).2 ⟨q, by rw [mixQ_self hf]; exact h⟩
  · obtain ⟨q2, h2⟩ := (projF_tv hp _ q).1 h
    have := hfg _ h2
    rwa [tv_same hg (q := q) fun t ht => by unfold mixQ; rw [if_pos ((nmsU_mem g t).2 ht)]] at this
theorem craig_no {f g : Fm} (ht : (tgcode [f, g]).1 = 0) (hs : someL (fun l => tvL f l && !tvL g l) (nmsF [f, g]) [] = true) : makesB f g (nmsF [f, g]) = false := by
  (have hf := (pc_fine (tg_plain ht (f := f) (by simp))).1); (have hg := (pc_fine (tg_plain ht (f := g) (by simp))).1); (have n1 : ∀ t ∈ nmsT f, t ∈ nmsF [f, g] := fun t ht => (nmsF_mem _ t).2 ⟨f, by simp, ht⟩); (have n2 : ∀ t ∈ nmsT g, t ∈ nmsF [f, g] := fun t ht => (nmsF_mem _ t).2 ⟨g, by simp, ht⟩); obtain ⟨q, h1, h2⟩ := (some_val hf hg (nmsF_nodup _) n1 n2).1 hs
  cases hm : makesB f g (nmsF [f, g])
  · rfl
  · have := (makesB_val hf hg (nmsF_nodup _) n1 n2).1 hm q h1
    rw [h2] at this; cases this
end Go.Proofs.Ytffkoiemnchdgae
