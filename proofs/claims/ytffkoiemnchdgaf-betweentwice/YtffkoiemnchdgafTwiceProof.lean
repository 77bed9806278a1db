/- For every formula and every two lists of texts BetweenTwice answers true, and leaves its arguments as they were: what is projected to one list and then to another is alike in all rows to what is projected to the texts that are in both. No condition. -/
import Derived.Test.YtffkoiemnchdgafRows
import Derived.Test.YtffkoiemnchdgafB19
import Derived.Test.YtffkoiemnchdgafB43
import Derived.ProofKit
import Derived.OpenShut
import Derived.ShutString
import Derived.ChangeOld
namespace Go.Proofs.Ytffkoiemnchdgaf
open Go.ChangeShapes Go.WideShapes Go.ChangeAt Go.RowKit
open Go.ChangeMaps (open_string shut_string)

theorem Try.own : ownKnob Try.prog.godebug = none := by kernel_rfl
theorem Try.laidOut : laidOutB Try.prog = true := by kernel_rfl

set_option maxRecDepth 100000 in
theorem twice_lifted (os : Os) (started : os.Started) (H : Type) (enc : TypeId × Value → H) :
    ReturnsInHanded {} Try.checked os 3 .any (Rows.betweenTwiceSpec.pre6 enc Try.prog Try.f3 Rows.betweenTwiceRow.domain false) (Rows.betweenTwiceSpec.post enc Try.prog Try.f3 false true false false) := by
  refine returnsInHanded_of_change_sized (C := Try.checked) Try.own started (by kernel_rfl) Try.func3
    (ChangeSpec.witness6 (enc := enc) (C := Try.checked) false ⟨#[], #[.agg #[.int .i64 0, .string ⟨#[]⟩, .slice none 0 0], .slice none 0 0, .slice none 0 0], []⟩ 8 (by kernel_rfl) (by kernel_rfl) (by kernel_rfl) (by kernel_rfl)) ?_
  intro W base args ds gs before hval0 hW hcnd hsz _; have hval : ∀ (j : Nat) t v, Try.f3.params[j]? = some t → args[j]? = some v → Value.okWide Try.prog W .any base t v := hval0; have hW' := hW; obtain ⟨p, q, hA0, hV, rfl, hfz, hnd⟩ := hW; (have hA : DataW.TrodAll enc Try.prog W 0 (fun _ => true) true Try.f3.params.toList args.toList ds p := hA0); rw [Try.params3] at hA hval; obtain ⟨v0, vs0, d0, ds0, p0, q0, hargs, rfl, rfl, h0, r0⟩ := trodAll_cons hA; obtain ⟨v1, vs1, d1, ds1, p1, q1, rfl, rfl, rfl, h1, r1⟩ := trodAll_cons r0; obtain ⟨v2, vs2, d2, ds2, p2, q2, rfl, rfl, rfl, h2, r2⟩ := trodAll_cons r1; obtain ⟨rfl, rfl, rfl⟩ := trodAll_nil r2; (obtain rfl : args = #[v0, v1, v2] := by cases args; simp_all); obtain ⟨rfl, rfl⟩ := trodVars_none hV; have k0 := h0; (have lt0 : ∀ x ∈ p0, x.block < W.heap.size := by obtain ⟨m, hm⟩ := k0; exact DataW.trod_lt m _ _ _ hm); obtain ⟨cs0, rfl, -⟩ := okWide_struct Try.underlying24 (hval 0 24 v0 rfl rfl)
  obtain ⟨f0, hrep0⟩ : ∃ f, Rep W (fun _ => True) f (.agg cs0) := by
    obtain ⟨m, hm⟩ := h0; obtain ⟨c0, c1, c2, f, hcs, hr⟩ := rep_of_trod m _ _ hm; (have e : cs0 = #[c0, c1, c2] := by apply Array.ext'; simpa [Value.cells] using hcs); rw [e]; exact ⟨f, hr⟩
  have k1 := h1; (have lt1 : ∀ x ∈ p1, x.block < W.heap.size := by obtain ⟨m, hm⟩ := k1; exact DataW.trod_lt m _ _ _ hm); obtain ⟨a1, len1, cap1, rfl⟩ := okWide_slice Try.underlying25 (hval 1 25 v1 rfl rfl)
  obtain ⟨l1, hsl1, hmx1⟩ : ∃ l, SL W (.slice a1 len1 cap1) l ∧ ∀ t ∈ l, t.length ≤ maxLen := by
    obtain ⟨m, hm⟩ := h1; obtain ⟨v, l, hcs, hr, hx⟩ := sl_of_trod m _ _ hm; (have e : v = .slice a1 len1 cap1 := by simpa [Value.cells] using hcs.symm); rw [e] at hr; exact ⟨l, hr, hx⟩
  have k2 := h2; (have lt2 : ∀ x ∈ p2, x.block < W.heap.size := by obtain ⟨m, hm⟩ := k2; exact DataW.trod_lt m _ _ _ hm); obtain ⟨a2, len2, cap2, rfl⟩ := okWide_slice Try.underlying25 (hval 2 25 v2 rfl rfl)
  obtain ⟨l2, hsl2, hmx2⟩ : ∃ l, SL W (.slice a2 len2 cap2) l ∧ ∀ t ∈ l, t.length ≤ maxLen := by
    obtain ⟨m, hm⟩ := h2; obtain ⟨v, l, hcs, hr, hx⟩ := sl_of_trod m _ _ hm; (have e : v = .slice a2 len2 cap2 := by simpa [Value.cells] using hcs.symm); rw [e] at hr; exact ⟨l, hr, hx⟩
  have hlen1 : l1.length ≤ 8796093022208 := by
    have e9 : len1 = l1.length := by
      obtain ⟨ad, cp, e, -⟩ := hsl1; simp only [Value.slice.injEq] at e; exact e.2.1
    obtain ⟨m, hm⟩ := k1
    rcases sl_data m a1 len1 cap1 _ hm with h | ⟨es, sp, h, he⟩
    · omega
    · have := sized_slice hsz (j := 1) (t := 25) (e := 9) (elems := es) (spare := sp) (by kernel_rfl) (by rw [← h]; rfl) Try.underlying25
      (rw [show Try.checked.prog.bytesOf 9 = 16 by kernel_rfl] at this); unfold reachBytes at this; omega
  clear hA0 hval0 hsz; (refine (twice_law f0 l1 l2 (.agg cs0) _ _ W hrep0 hsl1 hmx1 hlen1 hsl2 hmx2).mono fun e W' ⟨he, bel⟩ => ?_); subst he; (exact ⟨_, rfl, _, _, _, [], _, [], hW', trodAll_mk1 (shut_bool Try.underlying4 _), (trodAll_cons_mk (Below.trod Try.laidOut (by kernel_rfl) (of_decide_eq_true (by kernel_rfl)) k0 bel lt0) (trodAll_cons_mk (Below.trod Try.laidOut (by kernel_rfl) (of_decide_eq_true (by kernel_rfl)) k1 bel lt1) (trodAll_cons_mk (Below.trod Try.laidOut (by kernel_rfl) (of_decide_eq_true (by kernel_rfl)) k2 bel lt2) trodAll_mk0))), rfl, bel.frame _, fun h => by cases h⟩)

theorem twice_holds : Rows.BetweenTwiceSaid :=
  OpenClaim.holds_of_wide 3 Try.f3 rfl rfl rfl rfl rfl rfl rfl ⟨rfl, rfl, rfl, rfl, rfl⟩ rfl rfl rfl rfl rfl (by kernel_rfl) Try.func3 (by kernel_rfl)
    (of_decide_eq_true (by kernel_rfl)) (by unfold Func.isWrapper; first | (rw [if_pos (by decide +kernel)]; kernel_rfl) | (rw [if_neg (by decide +kernel)]; exact ⟨rfl, rfl⟩))
    (fun os started H enc _ => twice_lifted os started H enc)

#print axioms twice_holds
end Go.Proofs.Ytffkoiemnchdgaf
