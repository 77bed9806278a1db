/- For every model and every formula BisimClasses answers true, and leaves its arguments as they were: Classes and Shrink tell the faults that the yardstick tells, and else the classes and the shrunk model that it tells; what is shrunk shrinks no more, the same is true at a class as at its worlds, and what is handed in is not changed. No condition. -/
import Derived.Test.YtclinobfbdljhahRows
import Derived.Test.YtclinobfbdljhahB09
import Derived.Test.YtclinobfbdljhahB20
import Derived.Test.YtclinobfbdljhahB42
import Derived.ProofKit
import Derived.OpenShut
import Derived.ShutString
import Derived.ChangeOld
namespace Go.Proofs.Ytclinobfbdljhah
open Go.ChangeShapes Go.WideShapes Go.ChangeAt Go.RowKit
open Go.ChangeMaps (open_string shut_string)

theorem Try.own : ownKnob Try.prog.godebug = none := by kernel_rfl
theorem Try.laidOut : laidOutB Try.prog = true := by kernel_rfl

set_option maxRecDepth 100000 in
theorem bclasses_lifted (os : Os) (started : os.Started) (H : Type) (enc : TypeId × Value → H) :
    ReturnsInHanded {} Try.checked os 5 .any (Rows.bisimClassesSpec.pre6 enc Try.prog Try.f5 Rows.bisimClassesRow.domain false) (Rows.bisimClassesSpec.post enc Try.prog Try.f5 false true false false) := by
  refine returnsInHanded_of_change_sized (C := Try.checked) Try.own started (by kernel_rfl) Try.func5
    (ChangeSpec.witness6 (enc := enc) (C := Try.checked) false ⟨#[], #[.agg #[.int .i64 0, .slice none 0 0, .slice none 0 0], .agg #[.int .i64 0, .string ⟨#[]⟩, .slice none 0 0]], []⟩ 8 (by kernel_rfl) (by kernel_rfl) (by kernel_rfl) (by kernel_rfl)) ?_
  intro W base args ds gs before hval0 hW hcnd hsz _; have hval : ∀ (j : Nat) t v, Try.f5.params[j]? = some t → args[j]? = some v → Value.okWide Try.prog W .any base t v := hval0; have hW' := hW; obtain ⟨p, q, hA0, hV, rfl, hfz, hnd⟩ := hW; (have hA : DataW.TrodAll enc Try.prog W 0 (fun _ => true) true Try.f5.params.toList args.toList ds p := hA0); rw [Try.params5] at hA hval; obtain ⟨v0, vs0, d0, ds0, p0, q0, hargs, rfl, rfl, h0, r0⟩ := trodAll_cons hA; obtain ⟨v1, vs1, d1, ds1, p1, q1, rfl, rfl, rfl, h1, r1⟩ := trodAll_cons r0; obtain ⟨rfl, rfl, rfl⟩ := trodAll_nil r1; (obtain rfl : args = #[v0, v1] := by cases args; simp_all); obtain ⟨rfl, rfl⟩ := trodVars_none hV; have k0 := h0; (have lt0 : ∀ x ∈ p0, x.block < W.heap.size := by obtain ⟨m, hm⟩ := k0; exact DataW.trod_lt m _ _ _ hm); obtain ⟨cs0, rfl, -⟩ := okWide_struct Try.underlying30 (hval 0 30 v0 rfl rfl)
  obtain ⟨m0, hrep0⟩ : ∃ m, MR W m (.agg cs0) := by
    obtain ⟨m, hm⟩ := h0; obtain ⟨c0, c1, c2, md, hcs, hr⟩ := md_of_trod m _ _ hm; (have e : cs0 = #[c0, c1, c2] := by apply Array.ext'; simpa [Value.cells] using hcs); rw [e]; exact ⟨md, hr⟩
  have k1 := h1; (have lt1 : ∀ x ∈ p1, x.block < W.heap.size := by obtain ⟨m, hm⟩ := k1; exact DataW.trod_lt m _ _ _ hm); obtain ⟨cs1, rfl, -⟩ := okWide_struct Try.underlying24 (hval 1 24 v1 rfl rfl)
  obtain ⟨f1, hrep1⟩ : ∃ f, Rep W (fun _ => True) f (.agg cs1) := by
    obtain ⟨m, hm⟩ := h1; obtain ⟨c0, c1, c2, f, hcs, hr⟩ := rep_of_trod m _ _ hm; (have e : cs1 = #[c0, c1, c2] := by apply Array.ext'; simpa [Value.cells] using hcs); rw [e]; exact ⟨f, hr⟩
  have hbd0 : m0.rel.length ≤ 8796093022208 ∧ m0.tr.length ≤ 5864062014634 ∧ ∀ l ∈ m0.tr, l.length ≤ 8796093022208 := by
    obtain ⟨m9, hm9⟩ := k0; have hh := hrep0; obtain ⟨ra, rc, ta, tc, e, -⟩ := hh; simp only [Value.agg.injEq] at e; subst e
    have hb := md_bound (R := reachBytes) m9 m0 _ _ _ _ hm9 hrep0 (fun n hn => by
      (have := List.all_eq_true.1 hsz n (DataW.weights_mem_each (j := 0) (t := 30) (by kernel_rfl) rfl n hn))
      simpa using this)
    unfold reachBytes at hb; (exact ⟨by omega, by omega, fun l hl => by have := hb.2.2 l hl; omega⟩)
  clear hA0 hval0 hsz; (refine (bcl_text m0 f1 (.agg cs0) (.agg cs1) W hbd0 hrep0 hrep1).mono fun e W' ⟨he, bel⟩ => ?_); subst he; (exact ⟨_, rfl, _, _, _, [], _, [], hW', trodAll_mk1 (shut_bool Try.underlying4 _), (trodAll_cons_mk (Below.trod Try.laidOut (by kernel_rfl) (of_decide_eq_true (by kernel_rfl)) k0 bel lt0) (trodAll_cons_mk (Below.trod Try.laidOut (by kernel_rfl) (of_decide_eq_true (by kernel_rfl)) k1 bel lt1) trodAll_mk0)), rfl, bel.frame _, fun h => by cases h⟩)

theorem bclasses_holds : Rows.BisimClassesSaid :=
  OpenClaim.holds_of_wide 5 Try.f5 rfl rfl rfl rfl rfl rfl rfl ⟨rfl, rfl, rfl, rfl, rfl⟩ rfl rfl rfl rfl rfl (by kernel_rfl) Try.func5 (by kernel_rfl)
    (of_decide_eq_true (by kernel_rfl)) (by unfold Func.isWrapper; first | (rw [if_pos (by decide +kernel)]; kernel_rfl) | (rw [if_neg (by decide +kernel)]; exact ⟨rfl, rfl⟩))
    (fun os started H enc _ => bclasses_lifted os started H enc)

#print axioms bclasses_holds
end Go.Proofs.Ytclinobfbdljhah
