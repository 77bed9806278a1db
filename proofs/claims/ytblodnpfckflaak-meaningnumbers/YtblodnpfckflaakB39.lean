/- Texts of one proof, one behind the other: RM4. -/
import Derived.Test.YtblodnpfckflaakB36
import Derived.Test.YtblodnpfckflaakB38
import Derived.Test.YtblodnpfckflaakB32
import Derived.Test.YtblodnpfckflaakB09
import Derived.Test.YtblodnpfckflaakB16
import Derived.Test.YtblodnpfckflaakB11
import Derived.Test.YtblodnpfckflaakB12
import Derived.Test.YtblodnpfckflaakB04
import Derived.Test.YtblodnpfckflaakB01
import Derived.Test.YtblodnpfckflaakB10
import Derived.RegionTactic
import Derived.Laws.EntriesVeiled
/- The law MeaningNumbers: up to its loop; its answer where the structure is none. -/
namespace Go.Proofs.Ytblodnpfckflaak
open Go.RowKit Go.Sort

theorem sfault_any (s : StD) (v : Value) (w : World) (hS : StR w s v) :
    Calls Try.prog 12 #[v] w fun e w' => e = .returned (.agg #[.int .i64 (stcode s).1, .int .i64 (stcode s).2]) ∧ Below w.heap.size w w' := by
  unfold stcode; by_cases hok : 1 ≤ s.n ∧ s.n ≤ 8 ∧ s.funs.length ≤ 10 ∧ s.preds.length ≤ 10
  · rw [if_pos hok]
    (have hN : s.n = ((s.n.toNat : Nat) : Int) := by omega); (exact sfFine_any s.n.toNat s hN v w hS (by omega) (by omega) hok.2.2.1 hok.2.2.2)
  · rw [if_neg hok]
    exact sfMany_any s v w hS hok
theorem fnsOk_of {s : StD} (h : (stcode s).1 = 0) : FnsOk s.n.toNat s.funs := by
  intro f hf; obtain ⟨h1, h2, h3, h4, h5⟩ := fnf_none _ _ _ (st_zero h).1 f hf; (refine ⟨f.ar.toNat, by omega, by omega, h4, fun x hx => ?_⟩); have := h5 x hx; unfold thingB at this; simpa using this
theorem pdsOk_of {s : StD} (h : (stcode s).1 = 0) : PdsOk s.n.toNat s.preds := by
  intro f hf; obtain ⟨h1, h2, h3, h4⟩ := pdf_none _ _ _ (st_zero h).2 f hf; (exact ⟨f.ar.toNat, by omega, by omega, h4⟩)
theorem vals_in {n : Nat} : ∀ (names : List (List UInt8)) (vals : List Int), names.length = vals.length → (∀ p ∈ names.zip vals, isNm p.1 = true ∧ thingB n p.2 = true) → ∀ x ∈ vals, 0 ≤ x ∧ x < (n : Int)
  | [], [], _, _, x, hx => by cases hx
  | t :: names, y :: vals, hl, h, x, hx => by
    rcases List.mem_cons.1 hx with rfl | hx
    · have := (h (t, x) (List.mem_cons_self ..)).2
      unfold thingB at this; simpa using this
    · exact vals_in names vals (by simpa using hl) (fun p hp => h p (List.mem_cons_of_mem _ hp)) x hx
  | [], y :: vals, hl, _, _, _ => by simp at hl
  | t :: names, [], hl, _, _, _ => by simp at hl
set_option maxRecDepth 10000 in
set_option maxHeartbeats 8000000 in
/-- Where the structure has a fault. -/
theorem numbers_bad (s : StD) (x : Ex) (t : Int) (v u nv xv : Value) (w : World) (hS : StR w s v) (hE : ERp w x u) (hst : (stcode s).1 ≠ 0) :
    Calls Try.prog 4 #[v, u, nv, xv, .int .i64 t] w fun e w' => e = .returned (.bool true) ∧ Below w.heap.size w w' := by
  (have HVe : Hid (∀ v W, ERp W x v → Calls Try.prog 6 #[v, .int .i64 0] W _) := fun v W h => vastExpr_any x v W h); (have HSf : Hid (∀ v W, StR W s v → Calls Try.prog 12 #[v] W _) := fun v W h => sfault_any s v W h); have HRs : Hid (StR w s v) := hS; have HRe : Hid (ERp w x u) := hE; have HC1 : Hid ((stcode s).1 ≠ 0) := hst; generalize (stcode s).1 = c1 at HC1 HSf; generalize (stcode s).2 = d1 at HSf; obtain ⟨af, cf, ap, cp, rfl, -⟩ := hS; obtain ⟨k, n, ws, ks⟩ := x; obtain ⟨sw, cw, sk, ck, rfl, -⟩ := ERp.def.1 hE; obtain ⟨W, hW⟩ : ∃ W, W = (w.alloc (.cells #[.int .i64 s.n, .slice af s.funs.length cf, .slice ap s.preds.length cp] 25 (0, 0))).alloc (.cells #[.int .i64 k, .string n, .slice sw ws.length cw, .slice sk ks.length ck] 29 (0, 0)) := ⟨_, rfl⟩; (have HB0 : Hid (Below w.heap.size w W) := by rw [hW]; exact al2b _ _ _); (have HM0 : Hid (W.heap[w.heap.size]? = some (.cells #[.int .i64 s.n, .slice af s.funs.length cf, .slice ap s.preds.length cp] 25 (0, 0))) := by rw [hW]; exact al20 _ _ _); (have HF0 : Hid (W.heap[w.heap.size + 1]? = some (.cells #[.int .i64 k, .string n, .slice sw ws.length cw, .slice sk ks.length ck] 29 (0, 0))) := by rw [hW]; exact al21 _ _ _); clear hE hst
  go_enter Try.func4, Try.ntmps4
  go_wp2_with fail; rw [← hW]; refine (meaningBegun_any _).mono ?_; rintro _ w1 ⟨rfl, hb1⟩; have HB1 : Hid (Below w.heap.size w w1) := below_join HB0.out hb1; have HM1 := below_keep hb1 HM0.out; have HF1 := below_keep hb1 HF0.out; have HMa : Hid _ := HM1; have HFa : Hid _ := HF1; clear HB0 HM0 HF0 HM1 HF1 hb1 hW; obtain ⟨a0, a1, a2, a3⟩ := blk4L HFa.out; go_wp2_with fail; refine (HVe.out _ _ (ERp.up HB1.out _ _ HRe.out)).mono ?_; rintro _ w2 ⟨hA, hb2⟩; obtain ⟨bb, rfl⟩ := hA.get; have HB2 : Hid (Below w.heap.size w w2) := below_join HB1.out hb2; obtain ⟨k0, k1, k2, -⟩ := blk3 (below_keep hb2 HMa.out); clear hb2 HVe a0 a1 a2 a3 hA HMa HFa
  cases bb
  case true =>
    go_wp2_with fail; go_ret; exact ⟨rfl, HB2.out⟩
  go_wp2_with fail; refine (HSf.out _ _ (HRs.out.up HB2.out)).mono ?_; rintro _ w3 ⟨rfl, hb3⟩; have HB3 : Hid (Below w.heap.size w w3) := below_join HB2.out hb3; (have hc1 : (c1 != 0) = true := by simpa using HC1.out); have hc2 : ¬ c1 = 0 := HC1.out; clear hb3 k0 k1 k2; (have hfc := fun a b w => fault_code a b w); go_wp2_with fail; go_ret; exact ⟨rfl, HB3.out⟩
end Go.Proofs.Ytblodnpfckflaak
