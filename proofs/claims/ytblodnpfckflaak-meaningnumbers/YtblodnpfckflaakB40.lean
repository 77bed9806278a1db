/- Texts of one proof, one behind the other: RM5. -/
import Derived.Test.YtblodnpfckflaakB39
/- The law MeaningNumbers, walked. -/
namespace Go.Proofs.Ytblodnpfckflaak
open Go.RowKit Go.Sort

theorem infoIR : ∃ i, Try.prog.info? 3 = some i ∧ i.zero = some (.int .i64 0) ∧ i.size = 1 ∧ i.bytes = 8 := by
  (obtain ⟨i, hi, h⟩ := Option.map_eq_some_iff.1 (show (Try.prog.info? 3).map (fun i => (i.zero, i.size, i.bytes)) = some (some (.int .i64 0), 1, 8) by kernel_rfl)); simp only [Prod.mk.injEq] at h; exact ⟨i, hi, h.1, h.2.1, h.2.2⟩
theorem mvV_snoc (n : Int) (b : Nat) {l : List Int} {i : Nat} {y : Int} (h : l[i]? = some y) : mvV n b (l.take (i + 1)) = mvV n b (l.take i) ++ [(y + (b : Int)) % n] := by
  unfold mvV; rw [take_more h, List.map_append]; rfl
theorem mvV_len (n : Int) (b : Nat) (l : List Int) : (mvV n b l).length = l.length := by unfold mvV; rw [List.length_map]
theorem numbers_abs (s : StD) (N : Nat) (hN : s.n = (N : Int)) (x : Ex) (names : List (List UInt8)) (vals : List Int) (nv xv : Value) (hlen : ∀ t ∈ names, t.length ≤ maxLen) :
    ∃ (c2 d2 : Int) (A : Bool), (∀ v u W, StR W s v → ERp W x u → SL W nv names → IL W xv vals → Calls Try.prog 11 #[v, u, nv, xv] W fun e w' => e = .returned (.tuple #[.bool A, .agg #[.int .i64 c2, .int .i64 d2]]) ∧ Below W.heap.size W w') ∧
      (c2 = 0 → vals.length ≤ 20 ∧ (∀ y ∈ vals, 0 ≤ y ∧ y < (N : Int)) ∧ ∀ (b : Nat) (s' : StD), StrT b s s' → ∀ v u mv W, StR W s' v → ERp W x u → SL W nv names → IL W mv (mvV (N : Int) b vals) → Calls Try.prog 11 #[v, u, nv, mv] W fun e w' => e = .returned (.tuple #[.bool A, .agg #[.int .i64 0, .int .i64 0]]) ∧ Below W.heap.size W w') := by
  (refine ⟨_, _, _, fun v u W h1 h2 h3 h4 => valueS_any s x names vals v u nv xv W h1 h2 h3 h4 hlen, fun hc => ?_⟩); obtain ⟨e0, h1, h2, h3, h4, h5⟩ := vl_zero hc; obtain ⟨-, k1, k2, k3⟩ := vf_ok h3; (have hNt : s.n.toNat = N := by omega); rw [hNt] at k3; (refine ⟨by omega, vals_in names vals k1 k3, fun b s' hT v u mv W g1 g2 g3 g4 => ?_⟩); have hp := numbers_plain hT hc; rw [hN] at hp; have := valueS_any s' x names (mvV (N : Int) b vals) v u nv mv W g1 g2 g3 g4 hlen; unfold vlE at this; rw [hp.1, hp.2] at this; exact this
set_option maxRecDepth 10000 in
set_option maxHeartbeats 16000000 in
theorem numbers_ok (s : StD) (N : Nat) (x : Ex) (names : List (List UInt8)) (vals : List Int) (t : Int) (v u nv xv : Value) (w : World) (hS : StR w s v) (hE : ERp w x u) (hNm : SL w nv names) (hV : IL w xv vals) (hlen : ∀ t ∈ names, t.length ≤ maxLen) (hst : (stcode s).1 = 0) (hN : s.n = (N : Int)) :
    Calls Try.prog 4 #[v, u, nv, xv, .int .i64 t] w fun e w' => e = .returned (.bool true) ∧ Below w.heap.size w w' := by
  (have HVe : Hid (∀ v W, ERp W x v → Calls Try.prog 6 #[v, .int .i64 0] W _) := fun v W h => vastExpr_any x v W h); (have hsf := fun v W h => sfault_any s v W h); rw [hst] at hsf; have HSf : Hid (∀ v W, StR W s v → Calls Try.prog 12 #[v] W _) := hsf; clear hsf; generalize (stcode s).2 = d1 at HSf; obtain ⟨-, g1, g2, g3, g4, -⟩ := st_ok hst; (have hNt : s.n.toNat = N := by omega); have hfo := fnsOk_of hst; have hpo := pdsOk_of hst; rw [hNt] at hfo hpo; (have HRn : Hid (∀ v (b : Nat) W, StR W s v → b ≤ 100 → Calls Try.prog 13 #[v, .int .i64 (b : Nat)] W (RnEnd s b W)) := fun v b W h hb => renum_any s N b v W h hN (by omega) (by omega) hb hfo hpo g3 g4); (have HN8 : Hid (1 ≤ N ∧ N ≤ 8) := ⟨by omega, by omega⟩); obtain ⟨c2, d2, A, hv1, hv2⟩ := numbers_abs s N hN x names vals nv xv hlen; have HV1 : Hid _ := hv1; have HV2 : Hid _ := hv2; have HRs : Hid (StR w s v) := hS; have HRe : Hid (ERp w x u) := hE; have HRm : Hid (SL w nv names) := hNm; have HRv : Hid (IL w xv vals) := hV; obtain ⟨af, cf, ap, cp, rfl, -⟩ := hS; rw [hN] at HRs ⊢; obtain ⟨k, n, ws, ks⟩ := x; obtain ⟨sw, cw, sk, ck, rfl, -⟩ := ERp.def.1 hE; obtain ⟨an, cn, rfl, -⟩ := hNm; obtain ⟨av, cv, rfl, hv0, hv9, hvc⟩ := hV; have HVc : Hid (vals ≠ [] → ∃ g off, av = some ⟨g, off, none⟩ ∧ ∀ (j : Nat) (x : Int), vals[j]? = some x → w.cell? ⟨g, off + j, none⟩ = some (.int .i64 x)) := hvc; obtain ⟨W, hW⟩ : ∃ W, W = (w.alloc (.cells #[.int .i64 (N : Nat), .slice af s.funs.length cf, .slice ap s.preds.length cp] 25 (0, 0))).alloc (.cells #[.int .i64 k, .string n, .slice sw ws.length cw, .slice sk ks.length ck] 29 (0, 0)) := ⟨_, rfl⟩; (have HB0 : Hid (Below w.heap.size w W) := by rw [hW]; exact al2b _ _ _); (have HM0 : Hid (W.heap[w.heap.size]? = some (.cells #[.int .i64 (N : Nat), .slice af s.funs.length cf, .slice ap s.preds.length cp] 25 (0, 0))) := by rw [hW]; exact al20 _ _ _); (have HF0 : Hid (W.heap[w.heap.size + 1]? = some (.cells #[.int .i64 k, .string n, .slice sw ws.length cw, .slice sk ks.length ck] 29 (0, 0))) := by rw [hW]; exact al21 _ _ _); clear hE hst hlen hv1 hv2 hfo hpo g1 g2 g3 g4 hNt hN hv0 hv9 hvc
  go_enter Try.func4, Try.ntmps4
  go_wp2_with fail; rw [← hW]; refine (meaningBegun_any _).mono ?_; rintro _ w1 ⟨rfl, hb1⟩; have HB1 : Hid (Below w.heap.size w w1) := below_join HB0.out hb1; have HM1 : Hid (w1.heap[w.heap.size]? = some (.cells #[.int .i64 (N : Nat), .slice af s.funs.length cf, .slice ap s.preds.length cp] 25 (0, 0))) := below_keep hb1 HM0.out; have HF1 : Hid (w1.heap[w.heap.size + 1]? = some (.cells #[.int .i64 k, .string n, .slice sw ws.length cw, .slice sk ks.length ck] 29 (0, 0))) := below_keep hb1 HF0.out; clear HB0 HM0 HF0 hb1 hW; obtain ⟨a0, a1, a2, a3⟩ := blk4L HF1.out; go_wp2_with fail; refine (HVe.out _ _ (ERp.up HB1.out _ _ HRe.out)).mono ?_; rintro _ w2 ⟨hA, hb2⟩; obtain ⟨bb, rfl⟩ := hA.get; have HB2 : Hid (Below w.heap.size w w2) := below_join HB1.out hb2; have HM2 : Hid (w2.heap[w.heap.size]? = some (.cells #[.int .i64 (N : Nat), .slice af s.funs.length cf, .slice ap s.preds.length cp] 25 (0, 0))) := below_keep hb2 HM1.out; have HF2 : Hid (w2.heap[w.heap.size + 1]? = some (.cells #[.int .i64 k, .string n, .slice sw ws.length cw, .slice sk ks.length ck] 29 (0, 0))) := below_keep hb2 HF1.out; obtain ⟨k0, k1, k2, -⟩ := blk3 HM2.out; clear hb2 HVe a0 a1 a2 a3 hA HM1 HF1 HB1
  cases bb
  case true =>
    go_wp2_with fail; go_ret; exact ⟨rfl, HB2.out⟩
  go_wp2_with fail; refine (HSf.out _ _ (HRs.out.up HB2.out)).mono ?_; rintro _ w3 ⟨rfl, hb3⟩; have HB3 : Hid (Below w.heap.size w w3) := below_join HB2.out hb3; have HM3 : Hid (w3.heap[w.heap.size]? = some (.cells #[.int .i64 (N : Nat), .slice af s.funs.length cf, .slice ap s.preds.length cp] 25 (0, 0))) := below_keep hb3 HM2.out; have HF3 : Hid (w3.heap[w.heap.size + 1]? = some (.cells #[.int .i64 k, .string n, .slice sw ws.length cw, .slice sk ks.length ck] 29 (0, 0))) := below_keep hb3 HF2.out; clear hb3 k0 k1 k2 HB2 HM2 HF2 HSf; (have hfc := fun a b w => fault_code a b w); by_cases ht0 : t < 0
  · go_wp2_with fail
    go_ret; exact ⟨rfl, HB3.out⟩
  by_cases ht1 : (100 : Int) < t
  · go_wp2_with fail
    go_ret; exact ⟨rfl, HB3.out⟩
  (obtain ⟨b, rfl⟩ : ∃ b : Nat, t = (b : Int) := ⟨t.toNat, by omega⟩); (have HBb : Hid (b ≤ 100) := by show _ ≤ _; omega); obtain ⟨k0, k1, k2, -⟩ := blk3 HM3.out; obtain ⟨a0, a1, a2, a3⟩ := blk4L HF3.out; go_wp2_with fail; refine (HV1.out _ _ _ (HRs.out.up HB3.out) (ERp.up HB3.out _ _ HRe.out) (HRm.out.up HB3.out) (HRv.out.up HB3.out)).mono ?_; rintro _ w4 ⟨rfl, hb4⟩; have HB4 : Hid (Below w.heap.size w w4) := below_join HB3.out hb4; have HM4 : Hid (w4.heap[w.heap.size]? = some (.cells #[.int .i64 (N : Nat), .slice af s.funs.length cf, .slice ap s.preds.length cp] 25 (0, 0))) := below_keep hb4 HM3.out; have HF4 : Hid (w4.heap[w.heap.size + 1]? = some (.cells #[.int .i64 k, .string n, .slice sw ws.length cw, .slice sk ks.length ck] 29 (0, 0))) := below_keep hb4 HF3.out; obtain ⟨z0, z1, z2, z3⟩ := blk2 (blk_new w4 (.cells #[.int .i64 0, .int .i64 0] 39 (0, 0))); have zl := lt_of_block (blk_new w4 (.cells #[.int .i64 0, .int .i64 0] 39 (0, 0))); obtain ⟨y0, y1, -⟩ := blk2 (blk_new w4 (.cells #[.int .i64 c2, .int .i64 d2] 39 (0, 0))); clear hb4 k0 k1 k2 a0 a1 a2 a3 HB3 HM3 HF3 HV1; by_cases hc : c2 = 0
  case neg =>
    (have hcB : (c2 != 0) = true := by simpa using hc); go_wp2_with fail; go_ret; exact ⟨rfl, below_more HB4.out _⟩
  subst hc; obtain ⟨hl20, hin, hv2⟩ := HV2.out rfl; have HVn : Hid _ := hv2; have HIn : Hid (∀ y ∈ vals, 0 ≤ y ∧ y < (N : Int)) := hin; (have hlI : (vals.length : Int) ≤ 20 := by omega); have HL20 : Hid (vals.length ≤ 20) := hl20; obtain ⟨W5, hW5⟩ : ∃ W5, W5 = w4.alloc (.cells #[.int .i64 0, .int .i64 d2] 39 (0, 0)) := ⟨_, rfl⟩; (have HB5 : Hid (Below w.heap.size w W5) := by rw [hW5]; exact below_more HB4.out _); (have HM5 : Hid (W5.heap[w.heap.size]? = some (.cells #[.int .i64 (N : Nat), .slice af s.funs.length cf, .slice ap s.preds.length cp] 25 (0, 0))) := by rw [hW5]; exact alloc_keep HM4.out _); (have HF5 : Hid (W5.heap[w.heap.size + 1]? = some (.cells #[.int .i64 k, .string n, .slice sw ws.length cw, .slice sk ks.length ck] 29 (0, 0))) := by rw [hW5]; exact alloc_keep HF4.out _); (have HZ5 : Hid (W5.heap[w4.heap.size]? = some (.cells #[.int .i64 0, .int .i64 d2] 39 (0, 0))) := by rw [hW5]; exact blk_new _ _); have HS4 : Hid (w.heap.size ≤ w4.heap.size) := HB4.out.size; clear HV2 hv2 hin hl20 HM4 HF4 HB4; go_wp2_with fail; rw [← hW5]; clear hW5 z0 z1 z2 z3 zl y0 y1; generalize w4.heap.size = bz at HZ5 HS4 ⊢
  go_loopg [14, 13] vals.length (fun gg cc mv wr => ∃ i ad cp9, i ≤ vals.length ∧ gg = vals.length - i ∧ cc = .int .i64 (i : Nat) ∧ mv = .slice ad i cp9 ∧ Hid (wr.ownsRow w.heap.size 3 1 (.slice ad i cp9) i ((mvV (N : Int) b (vals.take i)).map encN)) ∧ Hid (Below w.heap.size w wr) ∧ Hid (wr.heap[w.heap.size]? = some (.cells #[.int .i64 (N : Nat), .slice af s.funs.length cf, .slice ap s.preds.length cp] 25 (0, 0))) ∧ Hid (wr.heap[w.heap.size + 1]? = some (.cells #[.int .i64 k, .string n, .slice sw ws.length cw, .slice sk ks.length ck] 29 (0, 0))) ∧ Hid (wr.heap[bz]? = some (.cells #[.int .i64 0, .int .i64 d2] 39 (0, 0))))
  case atStart => exact ⟨0, none, 0, by omega, by omega, rfl, rfl, ⟨rfl, Or.inl ⟨rfl, rfl⟩⟩, HB5, HM5, HF5, HZ5⟩
  case round =>
    obtain ⟨i, ad, cp9, hile, hg, rfl, rfl, HO, HB, HMs, HF, HZ⟩ := hrel; have HG : Hid (gk = vals.length - i) := hg; clear hg HB5 HM5 HF5 HZ5; by_cases hlt : i < vals.length
    · obtain ⟨y, hy⟩ : ∃ y, vals[i]? = some y := ⟨_, List.getElem?_eq_getElem hlt⟩
      (obtain ⟨vg, vo, e1, hcx⟩ := HVc.out (fun e => by rw [e] at hlt; simp at hlt)); subst e1; have q0 := hcx i y hy; have v0 := (HB.out.cell (lt_of_cell q0)).trans q0; have hyy := HIn.out y (List.mem_of_getElem? hy); have HTk : Hid (mvV (N : Int) b (vals.take (i + 1)) = mvV (N : Int) b (vals.take i) ++ [(y + (b : Int)) % (N : Int)]) := mvV_snoc _ _ hy; obtain ⟨yn, rfl⟩ := Int.eq_ofNat_of_zero_le hyy.1; (have hyI : (yn : Int) < 8 := by have := hyy.2; have := HN8.out.2; omega); (have hbI : (b : Int) ≤ 100 := by have := HBb.out; omega); (have hN0 : ¬ N = 0 := by have := HN8.out.1; omega); (have hltI : (i : Int) < (vals.length : Int) := by omega); have HLt : Hid (i < vals.length) := hlt; obtain ⟨k0, k1, k2, -⟩ := blk3 HMs.out; have hs1 := lt_of_block HMs.out
      have HW9 : Hid ((IntKind.i64.wrap ((yn : Int) + (b : Int))).tmod (N : Int) = ((yn : Int) + (b : Int)) % (N : Int)) := by
        show _ = _; (rw [IntWalk.i64_left, IntWalk.wrap64_in _ ⟨by omega, by omega⟩]); (exact Int.tmod_eq_emod_of_nonneg (by omega))
      obtain ⟨i0, hi0, hz0, hz1, hz2⟩ := infoIR; clear hcx q0 hy hyy hlt hile; go_wp2_with fail
      go_region_law
        (first
         | (rw [HW9.out]
            have hown := rowM_up HO.out ((Below.refl _ wr).alloc (Nat.le_refl _) (.cells #[.int .i64 (((yn : Int) + (b : Int)) % (N : Int))] 3 (0, 0))); (refine step_append_lies _ rfl _ _ 31 rfl w.heap.size 3 i0 (.int .i64 0) 1 8 Try.underlying31 hi0 hz0 hz1 hz2 rfl (by decide) _ _ _ rfl hown ⟨wr.heap.size, 0, none⟩ 1 1 [.int .i64 (((yn : Int) + (b : Int)) % (N : Int))] rfl rfl ?_ ?_ (by omega) (by have := HL20.out; have := HLt.out; unfold maxLen; omega) (by have := HL20.out; have := HLt.out; omega) (by have := HB.out.size; simp; omega) _ rfl ?_)
            · intro j u hu
              rw [add_none, Nat.zero_add]
              have h9 : (wr.alloc (.cells #[.int .i64 (((yn : Int) + (b : Int)) % (N : Int))] 3 (0, 0))).cell? ⟨wr.heap.size, j, none⟩ = some u := by
                rw [blk_cell (blk_new wr _)]; simpa using hu
              exact h9
            · intro u hu
              simp at hu
              rcases hu with rfl
              rfl
            intro g3 cp3 w3 hown3 hgrow hat hlt3
            have HO3 : Hid (w3.ownsRow w.heap.size 3 1 (.slice (some ⟨g3, 0, none⟩) (i + 1) cp3) (i + 1) ((mvV (N : Int) b (vals.take (i + 1))).map encN)) := by
              show World.ownsRow _ _ _ _ _ _ _; rw [HTk.out, List.map_append]; exact hown3
            have HK3 : Hid (∀ (q : Nat) (cur : Array Value) (T : TypeId), T ≠ 3 → wr.heap[q]? = some (.cells cur T (0, 0)) → w3.heap[q]? = wr.heap[q]?) := by
              intro q cur T hT hq; have h1 : (wr.alloc (.cells #[.int .i64 (((yn : Int) + (b : Int)) % (N : Int))] 3 (0, 0))).heap[q]? = some (.cells cur T (0, 0)) := alloc_keep hq _; (exact (hgrow.block q (lt_of_block h1) fun e => rowM_ne hown h1 hT e.symm).trans (h1.trans hq.symm))
            (have HB3 : Hid (Below w.heap.size w w3) := (HB.out.alloc HB.out.size _).drew.grown hgrow (by have := HB.out.size; simp; omega) fun q hq => (hown.lt q hq).1)
            clear hown hown3 hgrow hat hlt3)
         | fail)
      all_goals
        (have HMn : Hid (w3.heap[w.heap.size]? = some (.cells #[.int .i64 (N : Nat), .slice af s.funs.length cf, .slice ap s.preds.length cp] 25 (0, 0))) := (HK3.out _ _ _ (by decide) HMs.out).trans HMs.out); (have HFn : Hid (w3.heap[w.heap.size + 1]? = some (.cells #[.int .i64 k, .string n, .slice sw ws.length cw, .slice sk ks.length ck] 29 (0, 0))) := (HK3.out _ _ _ (by decide) HF.out).trans HF.out); (have HZn : Hid (w3.heap[bz]? = some (.cells #[.int .i64 0, .int .i64 d2] 39 (0, 0))) := (HK3.out _ _ _ (by decide) HZ.out).trans HZ.out); clear k0 k1 k2 v0; go_wp2_with fail
        go_roundg (vals.length - (i + 1))
        case measure => have := HG.out; have := HLt.out; omega
        case rel => exact ⟨i + 1, _, _, HLt.out, rfl, by go_num, rfl, HO3, HB3, HMn, HFn, HZn⟩
    · obtain rfl : i = vals.length := by omega
      (have hge : ¬ (vals.length : Int) < (vals.length : Int) := by omega)
      have HIl : Hid (IL wr (.slice ad vals.length cp9) (mvV (N : Int) b vals)) := by
        have h9 := HO.out; rw [List.take_length] at h9; have hl := mvV_len (N : Int) b vals; (have h8 := IL.own (w := wr) (B := w.heap.size) (ad := ad) (cp := cp9) (l := mvV (N : Int) b vals) (by rw [hl]; exact h9)); rw [hl] at h8; exact h8
      obtain ⟨k0, k1, k2, -⟩ := blk3 HMs.out; obtain ⟨a0, a1, a2, a3⟩ := blk4L HF.out
      have n1 : bz ≠ w.heap.size := fun e => by
        have h9 := HZ.out; rw [e, HMs.out] at h9
        cases h9
      have n2 : bz ≠ w.heap.size + 1 := fun e => by
        have h9 := HZ.out; rw [e, HF.out] at h9
        cases h9
      clear hlt hile; go_wp2_with fail
      go_region_held3 (fun w' => w'.cell? ⟨w.heap.size, 0, none⟩ = some (.int .i64 (N : Nat)) ∧ w'.cell? ⟨w.heap.size, 1, none⟩ = some (.slice af s.funs.length cf) ∧ w'.cell? ⟨w.heap.size, 2, none⟩ = some (.slice ap s.preds.length cp) ∧ w'.cell? ⟨w.heap.size + 1, 0, none⟩ = some (.int .i64 k) ∧ w'.cell? ⟨w.heap.size + 1, 1, none⟩ = some (.string n) ∧ w'.cell? ⟨w.heap.size + 1, 2, none⟩ = some (.slice sw ws.length cw) ∧ w'.cell? ⟨w.heap.size + 1, 3, none⟩ = some (.slice sk ks.length ck)) (first | go_keep | (refine ⟨?_, ?_, ?_, ?_, ?_, ?_, ?_⟩ <;> (rw [far_cellR (by assumption), far_cellR (by assumption)]; assumption)))
        (first
         | (go_at_call 13
            refine (HRn.out _ b _ ((HRs.out.up HB.out).up (Below.refl _ _).drew) HBb.out).mono ?_; rintro e w7 ⟨s2, v2, rfl, hT, hs2, hb7⟩; have HTs : Hid (StrT b s s2) := hT; have HS2 : Hid (StR w7 s2 v2) := hs2; obtain ⟨af2, cf2, ap2, cp2, rfl, -⟩ := hs2; have HW7 : Hid (Below wr.heap.size wr w7) := (Below.refl _ wr).drew.trans hb7; have e0 := (HW7.out.cell (lt_of_cell k0)).trans k0; have e1 := (HW7.out.cell (lt_of_cell k1)).trans k1; have e2 := (HW7.out.cell (lt_of_cell k2)).trans k2; have e3 := (HW7.out.cell (lt_of_cell a0)).trans a0; have e4 := (HW7.out.cell (lt_of_cell a1)).trans a1; have e5 := (HW7.out.cell (lt_of_cell a2)).trans a2; have e6 := (HW7.out.cell (lt_of_cell a3)).trans a3
            clear hT hb7)
         | (go_at_call 11
            refine (HVn.out b s2 HTs.out _ _ _ _ HS2.out (ERp.up (below_join HB.out HW7.out) _ _ HRe.out) (HRm.out.up (below_join HB.out HW7.out)) (HIl.out.up HW7.out)).mono ?_; rintro e w8 ⟨rfl, hb8⟩; have HW8 : Hid (Below wr.heap.size wr w8) := below_join HW7.out hb8; have f0 := (HW8.out.cell (lt_of_cell k0)).trans k0; have f1 := (HW8.out.cell (lt_of_cell k1)).trans k1; have f2 := (HW8.out.cell (lt_of_cell k2)).trans k2; have f3 := (HW8.out.cell (lt_of_cell a0)).trans a0; have f4 := (HW8.out.cell (lt_of_cell a1)).trans a1; have f5 := (HW8.out.cell (lt_of_cell a2)).trans a2; have f6 := (HW8.out.cell (lt_of_cell a3)).trans a3; obtain ⟨z0, z1, z2, z3⟩ := blk2 (below_keep HW8.out HZ.out); have zl := lt_of_block (below_keep HW8.out HZ.out)
            clear hb8)
         | fail)
      have f2 := set2 (below_keep HW8.out HZ.out) (.int .i64 0) (.int .i64 0); have b2 := ((below_join HB.out HW8.out).setCell (p := ⟨bz, 0, none⟩) HS4.out (.int .i64 0)).setCell (p := ⟨bz, 1, none⟩) HS4.out (.int .i64 0); clear z0 z1 z2 z3 zl k0 k1 k2 a0 a1 a2 a3 e0 e1 e2 e3 e4 e5 e6 f0 f1 f3 f4 f5 f6; generalize World.setCell _ _ _ = F at f2 b2 ⊢; have HBF : Hid (Below w.heap.size w F) := b2; obtain ⟨y0, y1, -⟩ := blk2 f2; clear b2 f2; go_wp2_with fail; go_ret
      first
        | exact ⟨rfl, HBF.out⟩
        | exact ⟨ret_bool (by cases A <;> rfl), HBF.out⟩
end Go.Proofs.Ytblodnpfckflaak
