/- For every formula and every list of texts BetweenProjects answers true, and leaves its arguments as they were: Project tells the faults that the yardstick tells, and else answers a plain formula of those of the texts that the formula has, which is true in a row just where some row of the formula that agrees with it makes the formula true. No condition. -/
import Derived.Test.YtffkoiemnchdgaeRows
import Derived.Test.YtffkoiemnchdgaeB20
import Derived.Test.YtffkoiemnchdgaeB45
import Derived.ProofKit
import Derived.OpenShut
import Derived.ShutString
import Derived.ChangeOld
namespace Go.Proofs.Ytffkoiemnchdgae
open Go.ChangeShapes Go.WideShapes Go.ChangeAt Go.RowKit
open Go.ChangeMaps (open_string shut_string)

theorem Try.own : ownKnob Try.prog.godebug = none := by kernel_rfl
theorem Try.laidOut : laidOutB Try.prog = true := by kernel_rfl

set_option maxRecDepth 100000 in
theorem projects_lifted (os : Os) (started : os.Started) (H : Type) (enc : TypeId × Value → H) :
    ReturnsInHanded {} Try.checked os 5 .any (Rows.betweenProjectsSpec.pre6 enc Try.prog Try.f5 Rows.betweenProjectsRow.domain false) (Rows.betweenProjectsSpec.post enc Try.prog Try.f5 false true false false) := by
  refine returnsInHanded_of_change_sized (C := Try.checked) Try.own started (by kernel_rfl) Try.func5
    (ChangeSpec.witness6 (enc := enc) (C := Try.checked) false ⟨#[], #[.agg #[.int .i64 0, .string ⟨#[]⟩, .slice none 0 0], .slice none 0 0], []⟩ 8 (by kernel_rfl) (by kernel_rfl) (by kernel_rfl) (by kernel_rfl)) ?_
  intro W base args ds gs before hval0 hW hcnd hsz _; have hval : ∀ (j : Nat) t v, Try.f5.params[j]? = some t → args[j]? = some v → Value.okWide Try.prog W .any base t v := hval0; have hW' := hW; obtain ⟨p, q, hA0, hV, rfl, hfz, hnd⟩ := hW; (have hA : DataW.TrodAll enc Try.prog W 0 (fun _ => true) true Try.f5.params.toList args.toList ds p := hA0); rw [Try.params5] at hA hval; obtain ⟨v0, vs0, d0, ds0, p0, q0, hargs, rfl, rfl, h0, r0⟩ := trodAll_cons hA; obtain ⟨v1, vs1, d1, ds1, p1, q1, rfl, rfl, rfl, h1, r1⟩ := trodAll_cons r0; obtain ⟨rfl, rfl, rfl⟩ := trodAll_nil r1; (obtain rfl : args = #[v0, v1] := by cases args; simp_all); obtain ⟨rfl, rfl⟩ := trodVars_none hV; have k0 := h0; (have lt0 : ∀ x ∈ p0, x.block < W.heap.size := by obtain ⟨m, hm⟩ := k0; exact DataW.trod_lt m _ _ _ hm); obtain ⟨cs0, rfl, -⟩ := okWide_struct Try.underlying24 (hval 0 24 v0 rfl rfl)
  obtain ⟨f0, hrep0⟩ : ∃ f, Rep W (fun _ => True) f (.agg cs0) := by
    obtain ⟨m, hm⟩ := h0; obtain ⟨c0, c1, c2, f, hcs, hr⟩ := rep_of_trod m _ _ hm; (have e : cs0 = #[c0, c1, c2] := by apply Array.ext'; simpa [Value.cells] using hcs); rw [e]; exact ⟨f, hr⟩
  have k1 := h1; (have lt1 : ∀ x ∈ p1, x.block < W.heap.size := by obtain ⟨m, hm⟩ := k1; exact DataW.trod_lt m _ _ _ hm); obtain ⟨a1, len1, cap1, rfl⟩ := okWide_slice Try.underlying43 (hval 1 43 v1 rfl rfl)
  obtain ⟨l1, hsl1, hmx1⟩ : ∃ l, SL W (.slice a1 len1 cap1) l ∧ ∀ t ∈ l, t.length ≤ maxLen := by
    obtain ⟨m, hm⟩ := h1; obtain ⟨v, l, hcs, hr, hx⟩ := sl_of_trod m _ _ hm; (have e : v = .slice a1 len1 cap1 := by simpa [Value.cells] using hcs.symm); rw [e] at hr; exact ⟨l, hr, hx⟩
  have hlen1 : l1.length ≤ 8796093022208 := by
    have e9 : len1 = l1.length := by
      obtain ⟨ad, cp, e, -⟩ := hsl1; simp only [Value.slice.injEq] at e; exact e.2.1
    obtain ⟨m, hm⟩ := k1
    rcases sl_data m a1 len1 cap1 _ hm with h | ⟨es, sp, h, he⟩
    · omega
    · have := sized_slice hsz (j := 1) (t := 43) (e := 9) (elems := es) (spare := sp) (by kernel_rfl) (by rw [← h]; rfl) Try.underlying43
      (rw [show Try.checked.prog.bytesOf 9 = 16 by kernel_rfl] at this); unfold reachBytes at this; omega
  clear hA0 hval0 hsz; (refine (projects_law f0 l1 (.agg cs0) _ W hrep0 hsl1 hmx1 hlen1).mono fun e W' ⟨he, bel⟩ => ?_); subst he; (exact ⟨_, rfl, _, _, _, [], _, [], hW', trodAll_mk1 (shut_bool Try.underlying4 _), (trodAll_cons_mk (Below.trod Try.laidOut (by kernel_rfl) (of_decide_eq_true (by kernel_rfl)) k0 bel lt0) (trodAll_cons_mk (Below.trod Try.laidOut (by kernel_rfl) (of_decide_eq_true (by kernel_rfl)) k1 bel lt1) trodAll_mk0)), rfl, bel.frame _, fun h => by cases h⟩)

theorem projects_holds : Rows.BetweenProjectsSaid :=
  OpenClaim.holds_of_wide 5 Try.f5 rfl rfl rfl rfl rfl rfl rfl ⟨rfl, rfl, rfl, rfl, rfl⟩ rfl rfl rfl rfl rfl (by kernel_rfl) Try.func5 (by kernel_rfl)
    (of_decide_eq_true (by kernel_rfl)) (by unfold Func.isWrapper; first | (rw [if_pos (by decide +kernel)]; kernel_rfl) | (rw [if_neg (by decide +kernel)]; exact ⟨rfl, rfl⟩))
    (fun os started H enc _ => projects_lifted os started H enc)

#print axioms projects_holds
end Go.Proofs.Ytffkoiemnchdgae
