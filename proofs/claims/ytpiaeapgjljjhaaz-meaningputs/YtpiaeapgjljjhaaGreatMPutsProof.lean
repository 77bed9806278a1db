/- For every structure, expression, text, word, list of texts and list of numbers MeaningPuts answers true, and leaves its arguments as they were: where the structure is fine, the text is a variable, the lists are values of variables, Put tells no fault, the word has a value, and Value tells no fault of the expression with that value behind the others for the text, Value tells none of what Put answers, with the values alone, and the same truth. No condition. -/
import Derived.Test.YtpiaeapgjljjhaaGreatRows
import Derived.Test.YtpiaeapgjljjhaaGreatB06
import Derived.Test.YtpiaeapgjljjhaaGreatB35
import Derived.Test.YtpiaeapgjljjhaaGreatB45
import Derived.ProofKit
import Derived.OpenShut
import Derived.ShutString
import Derived.ChangeOld
namespace Go.Proofs.YtpiaeapgjljjhaaGreat
open Go.ChangeShapes Go.WideShapes Go.ChangeAt Go.RowKit
open Go.ChangeMaps (open_string shut_string)

theorem Tryz.own : ownKnob Tryz.prog.godebug = none := by kernel_rfl
theorem Tryz.laidOut : laidOutB Tryz.prog = true := by kernel_rfl

set_option maxRecDepth 100000 in
theorem mputs_lifted (os : Os) (started : os.Started) (H : Type) (enc : TypeId × Value → H) :
    ReturnsInHanded {} Tryz.checked os 6 .any (Rows.meaningPutsSpec.pre6 enc Tryz.prog Tryz.f6 Rows.meaningPutsRow.domain false) (Rows.meaningPutsSpec.post enc Tryz.prog Tryz.f6 false true false false) := by
  refine returnsInHanded_of_change (C := Tryz.checked) Tryz.own started (by kernel_rfl) Tryz.func6
    (ChangeSpec.witness6 (enc := enc) (C := Tryz.checked) false ⟨#[], #[.agg #[.int .i64 0, .slice none 0 0, .slice none 0 0], .agg #[.int .i64 0, .string ⟨#[]⟩, .slice none 0 0, .slice none 0 0], .string ⟨#[]⟩, .agg #[.string ⟨#[]⟩, .slice none 0 0], .slice none 0 0, .slice none 0 0], []⟩ 8 (by kernel_rfl) (by kernel_rfl) (by kernel_rfl) (by kernel_rfl)) ?_
  intro W base args ds gs before hval0 hW hcnd _; have hval : ∀ (j : Nat) t v, Tryz.f6.params[j]? = some t → args[j]? = some v → Value.okWide Tryz.prog W .any base t v := hval0; have hW' := hW; obtain ⟨p, q, hA0, hV, rfl, hfz, hnd⟩ := hW; (have hA : DataW.TrodAll enc Tryz.prog W 0 (fun _ => true) true Tryz.f6.params.toList args.toList ds p := hA0); rw [Tryz.params6] at hA hval; obtain ⟨v0, vs0, d0, ds0, p0, q0, hargs, rfl, rfl, h0, r0⟩ := trodAll_cons hA; obtain ⟨v1, vs1, d1, ds1, p1, q1, rfl, rfl, rfl, h1, r1⟩ := trodAll_cons r0; obtain ⟨v2, vs2, d2, ds2, p2, q2, rfl, rfl, rfl, h2, r2⟩ := trodAll_cons r1; obtain ⟨v3, vs3, d3, ds3, p3, q3, rfl, rfl, rfl, h3, r3⟩ := trodAll_cons r2; obtain ⟨v4, vs4, d4, ds4, p4, q4, rfl, rfl, rfl, h4, r4⟩ := trodAll_cons r3; obtain ⟨v5, vs5, d5, ds5, p5, q5, rfl, rfl, rfl, h5, r5⟩ := trodAll_cons r4; obtain ⟨rfl, rfl, rfl⟩ := trodAll_nil r5; (obtain rfl : args = #[v0, v1, v2, v3, v4, v5] := by cases args; simp_all); obtain ⟨rfl, rfl⟩ := trodVars_none hV; have k0 := h0; (have lt0 : ∀ x ∈ p0, x.block < W.heap.size := by obtain ⟨m, hm⟩ := k0; exact DataW.trod_lt m _ _ _ hm); obtain ⟨cs0, rfl, -⟩ := okWide_struct Tryz.underlying62 (hval 0 62 v0 rfl rfl)
  obtain ⟨f0, hrep0⟩ : ∃ f, StR W f (.agg cs0) := by
    obtain ⟨m, hm⟩ := h0; obtain ⟨c0, c1, c2, f, hcs, hr⟩ := st_of_trod m _ _ hm; (have e : cs0 = #[c0, c1, c2] := by apply Array.ext'; simpa [Value.cells] using hcs); rw [e]; exact ⟨f, hr⟩
  have k1 := h1; (have lt1 : ∀ x ∈ p1, x.block < W.heap.size := by obtain ⟨m, hm⟩ := k1; exact DataW.trod_lt m _ _ _ hm); obtain ⟨cs1, rfl, -⟩ := okWide_struct Tryz.underlying25 (hval 1 25 v1 rfl rfl)
  obtain ⟨f1, hrep1⟩ : ∃ f, ERp W f (.agg cs1) := by
    obtain ⟨m, hm⟩ := h1; obtain ⟨c0, c1, c2, c3, f, hcs, hr⟩ := erp_of_trod m _ _ hm; (have e : cs1 = #[c0, c1, c2, c3] := by apply Array.ext'; simpa [Value.cells] using hcs); rw [e]; exact ⟨f, hr⟩
  obtain ⟨t2, rfl, rfl, rfl, w2⟩ := open_string Tryz.underlying9 (hval 2 9 v2 rfl rfl) h2; have k3 := h3; (have lt3 : ∀ x ∈ p3, x.block < W.heap.size := by obtain ⟨m, hm⟩ := k3; exact DataW.trod_lt m _ _ _ hm); obtain ⟨cs3, rfl, -⟩ := okWide_struct Tryz.underlying44 (hval 3 44 v3 rfl rfl)
  obtain ⟨f3, hrep3⟩ : ∃ f, WRp W f (.agg cs3) := by
    obtain ⟨m, hm⟩ := h3; obtain ⟨c0, c1, f, hcs, hr⟩ := wrp_of_trod m _ _ hm; (have e : cs3 = #[c0, c1] := by apply Array.ext'; simpa [Value.cells] using hcs); rw [e]; exact ⟨f, hr⟩
  have k4 := h4; (have lt4 : ∀ x ∈ p4, x.block < W.heap.size := by obtain ⟨m, hm⟩ := k4; exact DataW.trod_lt m _ _ _ hm); obtain ⟨a4, len4, cap4, rfl⟩ := okWide_slice Tryz.underlying34 (hval 4 34 v4 rfl rfl)
  obtain ⟨l4, hsl4, hmx4⟩ : ∃ l, SL W (.slice a4 len4 cap4) l ∧ ∀ t ∈ l, t.length ≤ maxLen := by
    obtain ⟨m, hm⟩ := h4; obtain ⟨v, l, hcs, hr, hx⟩ := sl_of_trod m _ _ hm; (have e : v = .slice a4 len4 cap4 := by simpa [Value.cells] using hcs.symm); rw [e] at hr; exact ⟨l, hr, hx⟩
  have k5 := h5; (have lt5 : ∀ x ∈ p5, x.block < W.heap.size := by obtain ⟨m, hm⟩ := k5; exact DataW.trod_lt m _ _ _ hm); obtain ⟨a5, len5, cap5, rfl⟩ := okWide_slice Tryz.underlying63 (hval 5 63 v5 rfl rfl)
  obtain ⟨l5, hsl5⟩ : ∃ l, IL W (.slice a5 len5 cap5) l := by
    obtain ⟨m, hm⟩ := h5; obtain ⟨v, l, hcs, hr⟩ := il_of_trod m _ _ hm; (have e : v = .slice a5 len5 cap5 := by simpa [Value.cells] using hcs.symm); rw [e] at hr; exact ⟨l, hr⟩
  clear hA0 hval0; (refine (puts_textM f0 f1 t2 f3 l4 l5 (.agg cs0) (.agg cs1) (.agg cs3) _ _ W hrep0 hrep1 w2 hrep3 hsl4 hmx4 hsl5).mono fun e W' ⟨he, bel⟩ => ?_); subst he; (exact ⟨_, rfl, _, _, _, [], _, [], hW', trodAll_mk1 (shut_bool Tryz.underlying4 _), (trodAll_cons_mk (Below.trod Tryz.laidOut (by kernel_rfl) (of_decide_eq_true (by kernel_rfl)) k0 bel lt0) (trodAll_cons_mk (Below.trod Tryz.laidOut (by kernel_rfl) (of_decide_eq_true (by kernel_rfl)) k1 bel lt1) (trodAll_cons_mk (shut_string Tryz.underlying9 w2) (trodAll_cons_mk (Below.trod Tryz.laidOut (by kernel_rfl) (of_decide_eq_true (by kernel_rfl)) k3 bel lt3) (trodAll_cons_mk (Below.trod Tryz.laidOut (by kernel_rfl) (of_decide_eq_true (by kernel_rfl)) k4 bel lt4) (trodAll_cons_mk (Below.trod Tryz.laidOut (by kernel_rfl) (of_decide_eq_true (by kernel_rfl)) k5 bel lt5) trodAll_mk0)))))), rfl, bel.frame _, fun h => by cases h⟩)

theorem mputs_holds : Rows.MeaningPutsSaid :=
  OpenClaim.holds_of_wide 6 Tryz.f6 rfl rfl rfl rfl rfl rfl rfl ⟨rfl, rfl, rfl, rfl, rfl⟩ rfl rfl rfl rfl rfl (by kernel_rfl) Tryz.func6 (by kernel_rfl)
    (of_decide_eq_true (by kernel_rfl)) (by unfold Func.isWrapper; first | (rw [if_pos (by decide +kernel)]; kernel_rfl) | (rw [if_neg (by decide +kernel)]; exact ⟨rfl, rfl⟩))
    (fun os started H enc _ => mputs_lifted os started H enc)

#print axioms mputs_holds
end Go.Proofs.YtpiaeapgjljjhaaGreat
