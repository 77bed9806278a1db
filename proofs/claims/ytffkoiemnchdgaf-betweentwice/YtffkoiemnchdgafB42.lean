/- Texts of one proof, one behind the other: BM2. -/
import Derived.Test.YtffkoiemnchdgafB39
import Derived.Test.YtffkoiemnchdgafB25
import Derived.Test.YtffkoiemnchdgafB40
/- Between formulas, the plain part: rows and values. -/
namespace Go.Proofs.Ytffkoiemnchdgaf
open Go.RowKit Go.Sort

theorem nodup_leB : ∀ {l m : List (List UInt8)}, l.Nodup → (∀ t ∈ l, t ∈ m) → l.length ≤ m.length
  | [], m, _, _ => by simp
  | t :: l, m, hn, hs => by
    obtain ⟨h1, h2⟩ := List.nodup_cons.1 hn; (have hm := hs t (by simp))
    have h3 : l.length ≤ (m.erase t).length := nodup_leB h2 fun x hx => by
      (have hne : x ≠ t := fun e => h1 (by rw [← e]; exact hx)); (exact (List.mem_erase_of_ne hne).2 (hs x (by simp [hx])))
    rw [List.length_erase_of_mem hm] at h3; have : 0 < m.length := List.length_pos_of_mem hm; simp only [List.length_cons]; omega
theorem tvL_rows {f : Fm} (hf : Fine f) {l : List (List UInt8)} (hn : l.Nodup) (hl : ∀ t ∈ nmsT f, t ∈ l) (r : Nat) : tvL f (rowN r l 0) = tv (colP r l) f := tv_row hf l hn hl r
theorem tv_same {f : Fm} (hf : Fine f) {p q : List UInt8 → Bool} (h : ∀ t ∈ nmsT f, p t = q t) : tv p f = tv q f := tv_congr p q f.size f (Nat.le_refl _) hf h
theorem makesB_val {f g : Fm} (hf : Fine f) (hg : Fine g) {l : List (List UInt8)} (hn : l.Nodup) (h1 : ∀ t ∈ nmsT f, t ∈ l) (h2 : ∀ t ∈ nmsT g, t ∈ l) : makesB f g l = true ↔ ∀ q, tv q f = true → tv q g = true := by
  rw [makesB_iff]
  constructor
  · intro h q hq
    obtain ⟨r, hr, hc⟩ := row_with hn q; (have e1 : tvL f (rowN r l 0) = tv q f := (tvL_rows hf hn h1 r).trans (tv_same hf fun t ht => hc t (h1 t ht))); (have e2 : tvL g (rowN r l 0) = tv q g := (tvL_rows hg hn h2 r).trans (tv_same hg fun t ht => hc t (h2 t ht))); (have := h r hr (by rw [e1]; exact hq))
    rwa [e2] at this
  · intro h k hk hq
    rw [tvL_rows hf hn h1] at hq; rw [tvL_rows hg hn h2]; exact h _ hq
/-- Names that are held, or put beside. -/
def mixQ (U : List (List UInt8)) (q q2 : List UInt8 → Bool) (t : List UInt8) : Bool := if t ∈ U then q t else q2 t
theorem projF_tv {f : Fm} (hp : f.pcode.1 = 0) (U : List (List UInt8)) (q : List UInt8 → Bool) : tv q (projF f U) = true ↔ ∃ q2, tv (mixQ U q q2) f = true := by
  have hf := (pc_fine hp).1; have hnm := nmsU_nm hf; unfold projF; (rw [writL_tv _ q _ _ (fun t ht => hnm t (List.mem_filter.1 ht).1), List.nil_append, someL_iff _ _ _ ((nmsU_nodup f).filter _)])
  have key : ∀ q2, tvL f (((nmsU f).filter fun t => decide (t ∈ U)).filter q ++ ((nmsU f).filter fun t => !decide (t ∈ U)).filter q2) = tv (mixQ U q q2) f := fun q2 => by
    (refine tv_same hf fun t ht => ?_); have hm := (nmsU_mem f t).2 ht; unfold mixQ; by_cases hu : t ∈ U
    · rw [if_pos hu]
      cases hq : q t <;> simp [List.mem_append, List.mem_filter, hm, hu, hq]
    · rw [if_neg hu]
      cases hq : q2 t <;> simp [List.mem_append, List.mem_filter, hm, hu, hq]
  constructor
  · rintro ⟨q2, h⟩; exact ⟨q2, by rw [← key]; exact h⟩
  · rintro ⟨q2, h⟩; exact ⟨q2, by rw [key]; exact h⟩
/-- The names that stay. -/
def keptN (f : Fm) (U : List (List UInt8)) : List (List UInt8) := (nmsU f).filter fun t => decide (t ∈ U)
theorem projF_made {f : Fm} (hp : f.pcode.1 = 0) (h6 : (nmsU f).length ≤ 6) (U : List (List UInt8)) : MadeF (keptN f U) 379 (projF f U) := by
  (have := writL_made (fun held => someL (tvL f) ((nmsU f).filter fun t => !decide (t ∈ U)) held) (keptN f U) [] (fun t ht => nmsU_nm (pc_fine hp).1 t (List.mem_filter.1 ht).1)); (exact this.mono (fun _ h => h) (wB_six (Nat.le_trans (List.length_filter_le _ _) h6)))
theorem nmsU_six {fs : List Fm} (h : (tgcode fs).1 = 0) {f : Fm} (hf : f ∈ fs) : (nmsU f).length ≤ 6 := by
  (refine Nat.le_trans (nodup_leB (nmsU_nodup f) (m := nmsF fs) fun t ht => ?_) (tg_few h)); rw [nmsF_mem]; exact ⟨f, hf, (nmsU_mem f t).1 ht⟩
def zF : Fm := .mk 0 ⟨#[]⟩ []
theorem rep_zF (w : World) : Rep w (fun _ => True) zF (.agg #[.int .i64 0, .string ⟨#[]⟩, .slice none 0 0]) := Rep.leaf (by simp [maxLen, ByteArray.size])
end Go.Proofs.Ytffkoiemnchdgaf
