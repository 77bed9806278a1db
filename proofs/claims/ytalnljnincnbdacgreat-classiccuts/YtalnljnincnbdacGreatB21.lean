/- Texts of one proof, one behind the other: KF5, KF6, KF7, KF8. -/
import Derived.Test.YtalnljnincnbdacGreatB20
import Derived.Test.YtalnljnincnbdacGreatB19
/- Walks: what can be taken apart. -/
namespace Go.Proofs.YtalnljnincnbdacGreat
open Go.RowKit Go.Sort

theorem closes_in (args : Array Value) (w : World) : (callFunc 95 args).run Tryz.prog w = .ok (.enter 95 args) w := by
  simp [go_sem]
set_option maxHeartbeats 1000000 in
theorem closes_any {x : Fx} {w : World} {M : Nat → Prop} {wh br : List Nat} {wk : Nat} {op : Bool} (h : FinSt x w M wh br wk op) (i : Nat) (hi : i < x.L) :
    Calls Tryz.prog 95 #[.pointer (some ⟨x.bf, 0, none⟩), .int .i64 (i : Nat)] w fun e w' => e = .returned (.bool (!(closeR x.ps wh i).isEmpty)) ∧ Below w.heap.size w w' := by
  have HC : Hid (Calls Tryz.prog 137 _ w _) := closingRule_any h i hi; obtain ⟨Ph, K, T, bf, bt, bw, L, vW, ps, fs⟩ := x; simp only at HC ⊢; clear h hi; generalize closeR ps wh i = cr at *
  go_enter Tryz.func95, Tryz.ntmps95
  go_wp2_with fail; refine HC.out.mono ?_; rintro e w1 ⟨s, rfl, hs, -, hb1⟩; subst hs; go_wp2_with fail; go_ret; refine ⟨?_, hb1⟩; show Ending.returned (.bool (!s.toList.isEmpty)) = .returned (.bool (!s.data.toList.isEmpty)); rw [ByteArray.toList_eq]
theorem predCloses {x : Fx} {M : Nat → Prop} {wh br : List Nat} {wk : Nat} {op : Bool} : PredI 95 #[.pointer (some ⟨x.bf, 0, none⟩)] #[] (fun i => !(closeR x.ps wh i).isEmpty) (· < x.L) (fun w => FinSt x w M wh br wk op) where
  up h hb := h.up hb
  ent _ w := closes_in _ w
  call t _ h ht := closes_any h t ht
theorem tell1_in (args : Array Value) (w : World) : (callFunc 172 args).run Tryz.prog w = .ok (.enter 172 args) w := by
  simp [go_sem]
set_option maxHeartbeats 1000000 in
theorem tell1_any {x : Fx} {w : World} {M : Nat → Prop} {wh br : List Nat} {wk : Nat} {op : Bool} (h : FinSt x w M wh br wk op) (c : Nat) (hc : w.cell? ⟨c, 0, none⟩ = some (.pointer (some ⟨x.bf, 0, none⟩))) (i : Nat) (hi : i < x.L) :
    Calls Tryz.prog 172 #[.int .i64 (i : Nat), .pointer (some ⟨c, 0, none⟩)] w fun e w' => e = .returned (.bool (wh.getD i 0 == 0)) ∧ Below w.heap.size w w' := by
  obtain ⟨Ph, K, T, bf, bt, bw, L, vW, ps, fs⟩ := x; have hL2 := h.l2; have hpl := h.plen; obtain ⟨adB, cB, hfin, -, -⟩ := h.fin; obtain ⟨q0, q1, q2, -⟩ := blk6 hfin; obtain ⟨w0, -⟩ := h.wcell (i := i) hi; simp only at hL2 hpl w0 q0 q1 q2 hc hi; (have hiI : (i : Int) < (L : Int) := by omega); (have hLI : (L : Int) ≤ 200000 := by omega); generalize wh.getD i 0 = u at *; clear h hfin hL2 hpl hi
  go_enter Tryz.func172, Tryz.ntmps172
  go_wp2_with fail; go_ret; refine ⟨?_, Below.refl _ _⟩; show Ending.returned (.bool ((u : Int) == 0)) = .returned (.bool (u == 0))
  congr 2
  rw [Bool.eq_iff_iff]
  simp
theorem predTell {x : Fx} {M : Nat → Prop} {wh br : List Nat} {wk : Nat} {op : Bool} (c : Nat) : PredI 172 #[] #[.pointer (some ⟨c, 0, none⟩)] (fun i => wh.getD i 0 == 0) (· < x.L) (fun w => FinSt x w M wh br wk op ∧ c < w.heap.size ∧ w.cell? ⟨c, 0, none⟩ = some (.pointer (some ⟨x.bf, 0, none⟩))) where
  up h hb := ⟨h.1.up hb, Nat.lt_of_lt_of_le h.2.1 hb.size, (hb.cell (p := ⟨c, 0, none⟩) h.2.1).trans h.2.2⟩
  ent _ w := tell1_in _ w
  call t _ h ht := tell1_any h.1 c h.2.2 t ht
/-- A way's premises, as they are read. -/
theorem FinSt.way {x : Fx} {w : World} {M : Nat → Prop} {wh br : List Nat} {wk : Nat} {op : Bool} (h : FinSt x w M wh br wk op) {i : Nat} (hi : i < x.L) : ∃ b cW s adP cP, x.vW = .slice (some ⟨b, 0, none⟩) x.L cW ∧ x.L ≤ cW ∧ cW ≤ maxLen ∧ x.K b ∧ w.cell? ⟨b, i * 2, none⟩ = some (.string s) ∧ w.cell? ⟨b, i * 2 + 1, none⟩ = some (.slice adP (wayOf x.ps i).2.length cP) ∧ s.data.toList = (wayOf x.ps i).1 ∧ PRows x.K w (.slice adP (wayOf x.ps i).2.length cP) (wayOf x.ps i).2 := by
  obtain ⟨ad, cap, h1, h2, h3, h4⟩ := h.ways; have hl := h.l2; (obtain ⟨b, rfl, h5, h6⟩ := h4 (fun e => by rw [e] at hl; simp at hl; omega)); (obtain ⟨s, u, hs, hu, he, hr⟩ := h6 i (by omega)); have hr' := hr; obtain ⟨adP, cP, rfl, -⟩ := hr'; (exact ⟨b, cap, s, adP, cP, by rw [h1, hl], by omega, h3, h5, hs, hu, he, hr⟩)
theorem PRows.some' {P : Nat → Prop} {w : World} {ad : Option Addr} {cap : Nat} {prs : List (List Nat)} (h : PRows P w (.slice ad prs.length cap) prs) {j : Nat} {pr : List Nat} (hj : prs[j]? = some pr) : ∃ b off aj cj, ad = some ⟨b, off, none⟩ ∧ P b ∧ w.cell? ⟨b, off + j, none⟩ = some (.slice aj pr.length cj) ∧ IRow P w (.slice aj pr.length cj) pr ∧ prs.length ≤ cap ∧ cap ≤ maxLen := by
  obtain ⟨ad', cap', e, h2, h3, h4⟩ := h; simp only [Value.slice.injEq, true_and] at e; obtain ⟨rfl, rfl⟩ := e; (obtain ⟨b, off, h5, h6, h7⟩ := h4 (fun e => by rw [e] at hj; simp at hj)); obtain ⟨u, hu, hr⟩ := h7 j pr hj; have hr' := hr; obtain ⟨aj, cj, rfl, -⟩ := hr'; exact ⟨b, off, aj, cj, h5, h6, hu, hr, h2, h3⟩
/-- What is in a premise is an item. -/
def WayLt (x : Fx) : Prop := ∀ i, i < x.L → (wayOf x.ps i).2.length ≤ 2 ∧ ∀ pr ∈ (wayOf x.ps i).2, pr.length ≤ 2 ∧ ∀ j ∈ pr, j < x.L

set_option maxRecDepth 10000 in
set_option maxHeartbeats 4000000 in
theorem tell_any {x : Fx} (hwl : WayLt x) {w : World} {M : Nat → Prop} {wh br : List Nat} {wk : Nat} {op : Bool} (h : FinSt x w M wh br wk op) (i : Nat) (hi : i < x.L) :
    Calls Tryz.prog 139 #[.pointer (some ⟨x.bf, 0, none⟩), .int .i64 (i : Nat)] w fun e w' => e = .returned (.bool (tellB x.ps wh i)) ∧ Below w.heap.size w w' := by
  have HS : Hid (FinSt x w M wh br wk op) := h; obtain ⟨b, cW, s, adP, cP, hvW, hc1, hc2, hKb, hs, hu, -, hpr⟩ := h.way hi; have HWl : Hid ((wayOf x.ps i).2.length ≤ 2 ∧ ∀ pr ∈ (wayOf x.ps i).2, pr.length ≤ 2 ∧ ∀ j ∈ pr, j < x.L) := hwl i hi; have HPr : Hid (PRows x.K w (.slice adP (wayOf x.ps i).2.length cP) (wayOf x.ps i).2) := hpr; (have HTl : Hid (tellB x.ps wh i = (!(wayOf x.ps i).2.isEmpty && (wayOf x.ps i).2.all fun pr => pr.any fun j => wh.getD j 0 == 0)) := rfl); generalize tellB x.ps wh i = rb at *; clear hpr; (have HPd := fun c => @predTell x M wh br wk op c); (have HPD : Hid (∀ c, PredI 172 #[] #[.pointer (some ⟨c, 0, none⟩)] (fun i => wh.getD i 0 == 0) (· < x.L) (fun w => FinSt x w M wh br wk op ∧ c < w.heap.size ∧ w.cell? ⟨c, 0, none⟩ = some (.pointer (some ⟨x.bf, 0, none⟩)))) := HPd); clear HPd; have hL2 := h.l2; have hpl := h.plen; obtain ⟨adB, cB, hfin, -, -⟩ := h.fin; have HFn : Hid (w.heap[x.bf]? = _) := hfin; obtain ⟨q0, q1, q2, -⟩ := blk6 hfin; (have hiI : (i : Int) < (x.L : Int) := by omega); (have hicI : (i : Int) < (cW : Int) := by omega); (have hLI : (x.L : Int) ≤ 200000 := by omega); have hl2 : (wayOf x.ps i).2.length ≤ 2 := HWl.out.1; have zb := lt_of_cell hs; have zf := lt_of_block hfin; (have HBf : Hid (∀ W, Below w.heap.size w W → W.cell? ⟨x.bf, 1, none⟩ = some x.vW) := fun W hb => (hb.cell (p := ⟨x.bf, 1, none⟩) zf).trans q1); rw [hvW] at q1 HBf; clear h hfin hL2 hpl hwl hvW hKb HFn; generalize (wayOf x.ps i).2 = prs at *; (have hlI : (prs.length : Int) ≤ 2 := by omega); (have HU : Hid (∀ W, Below w.heap.size w W → W.cell? ⟨b, i * 2 + 1, none⟩ = some (.slice adP prs.length cP)) := fun W hb => (hb.cell (p := ⟨b, i * 2 + 1, none⟩) zb).trans hu)
  go_enter Tryz.func139, Tryz.ntmps139
  go_wp2_with fail; have B0 : Below w.heap.size w (w.alloc (.cells #[.pointer (some ⟨x.bf, 0, none⟩)] 80 (0, 0))) := below_more (Below.refl _ w) _; have HQ0 : Hid ((w.alloc (.cells #[.pointer (some ⟨x.bf, 0, none⟩)] 80 (0, 0))).heap[w.heap.size]? = some (.cells #[.pointer (some ⟨x.bf, 0, none⟩)] 80 (0, 0))) := blk_new w _; have HB0 : Hid (Below w.heap.size w (w.alloc (.cells #[.pointer (some ⟨x.bf, 0, none⟩)] 80 (0, 0)))) := B0; (have HZ0 : Hid (w.heap.size < (w.alloc (.cells #[.pointer (some ⟨x.bf, 0, none⟩)] 80 (0, 0))).heap.size) := by show _ < _; simp); clear B0; generalize (w.alloc (.cells #[.pointer (some ⟨x.bf, 0, none⟩)] 80 (0, 0))) = W at *
  go_loopg [18] prs.length (fun g c wr => ∃ k, k ≤ prs.length ∧ g = prs.length - k ∧ c = .int .i64 (k : Nat) ∧ Hid (Below w.heap.size w wr) ∧ Hid (Below W.heap.size W wr) ∧ Hid (((prs.take k).all fun pr => pr.any fun j => wh.getD j 0 == 0) = true))
  case atStart => exact ⟨0, by omega, by omega, rfl, HB0, Below.refl _ _, by show _ = _; rfl⟩
  case round =>
    obtain ⟨k, hk, hg, rfl, HB, HBW, HA⟩ := hrel; have HG : Hid (gk = prs.length - k) := hg; clear hg; have HQr : Hid (wr.heap[w.heap.size]? = some (.cells #[.pointer (some ⟨x.bf, 0, none⟩)] 80 (0, 0))) := below_keep HBW.out HQ0.out; have HZr : Hid (w.heap.size < wr.heap.size) := Nat.lt_of_lt_of_le HZ0.out HBW.out.size; by_cases hlt : k < prs.length
    · obtain ⟨pr, hpr⟩ : ∃ pr, prs[k]? = some pr := ⟨_, List.getElem?_eq_getElem hlt⟩
      (obtain ⟨bp, off, aj, cj, rfl, hKp, hcell, hrow, hcp, hcm⟩ := (HPr.out.move (P' := fun _ => True) (w' := wr) fun b hb _ => ⟨HB.out.block b hb, trivial⟩).some' hpr); (have hltI : (k : Int) < (prs.length : Int) := by omega); (have hltc : (k : Int) < (cP : Int) := by omega); have HC : Hid (Calls Tryz.prog 173 #[.slice aj pr.length cj, .func (.func 172) #[] #[.pointer (some ⟨w.heap.size, 0, none⟩)]] wr _) := cntFunc_it (HPD.out w.heap.size) pr (HWl.out.2 pr (List.mem_of_getElem? hpr)).2 _ wr hrow ⟨HS.out.up HB.out, HZr.out, blk_cell HQr.out 0⟩
      have HTk : Hid ((prs.take (k + 1)).all (fun pr => pr.any fun j => wh.getD j 0 == 0) = pr.any (fun j => wh.getD j 0 == 0)) := by
        show _ = _; rw [List.take_add_one, hpr, List.all_append, HA.out]
        simp
      have HPm : Hid (pr ∈ prs) := List.mem_of_getElem? hpr; (have HBo : Hid ((pr.any fun j => wh.getD j 0 == 0) = false → (prs.all fun pr => pr.any fun j => wh.getD j 0 == 0) = false) := fun h => List.all_eq_false.2 ⟨pr, HPm.out, by rw [h]; simp⟩); (generalize (pr.any fun j => wh.getD j 0 == 0) = bb at *); clear hrow hpr hKp hcp hcm
      cases bb
      · go_wp2_with fail
        refine HC.out.mono ?_; rintro e w1 ⟨rfl, hb1⟩; have B1 := below_join HB.out hb1; (have HX := HBo.out (by first | rfl | trivial)); go_wp2_with fail; go_ret; (exact ⟨by rw [HTl.out, HX]; simp, B1⟩)
      · go_wp2_with fail
        refine HC.out.mono ?_; rintro e w1 ⟨rfl, hb1⟩; have HB1 : Hid (Below w.heap.size w w1) := below_join HB.out hb1; have HBW1 : Hid (Below W.heap.size W w1) := below_join HBW.out hb1; clear hb1; go_wp2_with fail
        go_roundg (prs.length - (k + 1))
        case measure => have := HG.out; omega
        case rel => exact ⟨k + 1, by omega, rfl, by go_num, HB1, HBW1, HTk⟩
    · have hge : ¬ (k : Int) < (prs.length : Int) := by omega
      (have hke : k = prs.length := by omega); subst hke; rw [List.take_length] at HA; have z0 := blk_cell HQr.out 0; have z1 := HBf.out wr HB.out; have z2 := HU.out wr HB.out; simp only [List.getElem?_toArray, List.getElem?_cons_zero] at z0; go_wp2_with fail; go_ret; refine ⟨?_, HB.out⟩; show Ending.returned (.bool (decide (0 < prs.length))) = .returned (.bool rb); rw [HTl.out, HA.out]
      cases prs <;> simp
end Go.Proofs.YtalnljnincnbdacGreat
/- Walks: what was put last is taken back. -/
namespace Go.Proofs.YtalnljnincnbdacGreat
open Go.RowKit Go.Sort

theorem owns_prefix {w : World} {B : Nat} {ad : Option Addr} {cap : Nat} {is : List Nat} (h : w.ownsRow B 82 1 (.slice ad is.length cap) is.length (is.map fun i => (.int .i64 (i : Nat) : Value))) (a : Nat) (ha : a ≤ is.length) : w.ownsRow B 82 1 (.slice ad a cap) a ((is.take a).map fun i => (.int .i64 (i : Nat) : Value)) := by
  obtain ⟨h0, h⟩ := h
  rcases h with ⟨hv, hn⟩ | ⟨g', cap', cur, hv, hg, hh, h1, h2, h3, h4⟩
  · simp only [Value.slice.injEq] at hv
    obtain ⟨rfl, e1, rfl⟩ := hv; (have : a = 0 := by omega); subst this; (exact ⟨by simp, Or.inl ⟨rfl, rfl⟩⟩)
  · simp only [Value.slice.injEq, true_and] at hv
    obtain ⟨rfl, rfl⟩ := hv; (refine ⟨by simp; omega, Or.inr ⟨g', cap, cur, rfl, hg, hh, by omega, h2, h3, ?_⟩⟩); rw [List.map_take, ← h4, List.take_take]
    congr 1
    omega
set_option maxRecDepth 10000 in
set_option maxHeartbeats 4000000 in
theorem fback_any {x : Fx} {w : World} {M : Nat → Prop} {wh br : List Nat} {wk : Nat} {op : Bool} (h : FinSt x w M wh br wk op) (fr : List Nat) (v : Value) (hv : IRow (fun b => ¬ M b) w v fr) (hb : ∀ i ∈ fr, i < x.L) (hl : fr.length ≤ br.length) (hbl : br.length ≤ 400000) :
    Calls Tryz.prog 174 #[.pointer (some ⟨x.bf, 0, none⟩), v] w fun e w' => e = .returned (.tuple #[]) ∧ FinSt x w' M (backF wh fr) (br.take (br.length - fr.length)) wk op ∧ Kept (fun b => ¬ M b) w w' := by
  have hv' := hv; obtain ⟨ad, cap, rfl, hc1, hc2, -⟩ := hv'; obtain ⟨Ph, K, T, bf, bt, bw, L, vW, ps, fs⟩ := x; (have HV : Hid (IRow (fun b => ¬ M b) w (.slice ad fr.length cap) fr) := hv); have HB : Hid (∀ i ∈ fr, i < L) := hb; have HS : Hid (FinSt ⟨Ph, K, T, bf, bt, bw, L, vW, ps, fs⟩ w M wh br wk op) := h; (have hlI : (fr.length : Int) ≤ 400000 := by omega); (have hlc : (fr.length : Int) ≤ (cap : Int) := by omega); have hL2 := h.l2; have hpl := h.plen; simp only at hL2 hpl; (have HLI : Hid ((L : Int) ≤ 200000) := by show (L : Int) ≤ 200000; omega); have HLn : Hid (fr.length ≤ br.length) := hl; have HBn : Hid (br.length ≤ 400000) := hbl; clear hv hb h hL2 hpl hc1 hc2 hl hbl
  go_enter Tryz.func174, Tryz.ntmps174
  go_wp2_with fail
  go_loopg [8] fr.length (fun g c wr => ∃ i, i ≤ fr.length ∧ g = fr.length - i ∧ c = .int .i64 (i : Nat) ∧ Hid (FinSt ⟨Ph, K, T, bf, bt, bw, L, vW, ps, fs⟩ wr M (backF wh (fr.take i)) br wk op) ∧ Hid (Kept (fun b => ¬ M b) w wr))
  case atStart => exact ⟨0, by omega, by omega, rfl, HS, Kept.refl _ _⟩
  case round =>
    obtain ⟨i, hi, hg, rfl, HF, HK⟩ := hrel; have HG : Hid (gk = fr.length - i) := hg; clear hg; by_cases hlt : i < fr.length
    · obtain ⟨t, ht⟩ : ∃ t, fr[i]? = some t := ⟨_, List.getElem?_eq_getElem hlt⟩
      obtain ⟨b, off, rfl, hPb, hcell⟩ := HV.out.some' ht; have g0 := (cell_of_block (a := ⟨b, off + i, none⟩) (HK.out.block b (lt_of_cell hcell) hPb)).trans hcell; have htL : t < L := HB.out t (List.mem_of_getElem? ht); obtain ⟨adB, cB, hfin, -, -⟩ := HF.out.fin; obtain ⟨q0, q1, q2, -⟩ := blk6 hfin; obtain ⟨w0, w1⟩ := HF.out.wcell (i := t) htL; simp only at w0 w1 q0 q1 q2; (have hltI : (i : Int) < (fr.length : Int) := by omega); (have hltc : (i : Int) < (cap : Int) := by omega); (have htI : (t : Int) < (L : Int) := by omega); have hLI := HLI.out
      have HTk : Hid (backF wh (fr.take (i + 1)) = (backF wh (fr.take i)).set t 0) := by
        show _ = _; rw [List.take_add_one, ht, ← backF_snoc]; rfl
      generalize (backF wh (fr.take i)).getD t 0 = u at w0; clear hcell hPb hfin ht; go_wp2_with fail
      go_roundg (fr.length - (i + 1))
      case measure => have := HG.out; omega
      case rel =>
        (refine ⟨i + 1, by omega, rfl, by go_num, ?_, ?_⟩)
        · rw [HTk.out]
          exact HF.out.put t 0
        · exact kept_far HK.out (kept_set (b := bw) (ok := fun c => c ≠ bw) fun c hc => hc) fun c _ hm e => hm (e ▸ HS.out.mw)
    · have hge : ¬ (i : Int) < (fr.length : Int) := by omega
      (have hie : i = fr.length := by omega); subst hie; rw [List.take_length] at HF; obtain ⟨adB, cB, hfin, hob, hmb⟩ := HF.out.fin; obtain ⟨q0, q1, q2, q3, q4, q5⟩ := blk6 hfin; have q6 := blk_fz hfin 3; (have HOB : Hid (wr.ownsRow 0 82 1 (.slice adB br.length cB) br.length (br.map fun i => .int .i64 (i : Nat))) := hob); have HMB : Hid (∀ b, (Value.slice adB br.length cB).ownBlock = some b → M b ∧ b ≠ bf ∧ b ≠ bw) := hmb; have HFi : Hid (wr.heap[bf]? = some (.cells #[.pointer (some ⟨bt, 0, none⟩), vW, .slice (some ⟨bw, 0, none⟩) L L, .slice adB br.length cB, .int .i64 (wk : Nat), .bool op] 92 (0, 0))) := hfin; simp only at q0 q1 q2 q3 q4 q5; have hcB := (row_caps hob).1; obtain ⟨n, hn⟩ : ∃ n : Nat, n = br.length - fr.length := ⟨_, rfl⟩; have HN : Hid (n = br.length - fr.length) := hn; have hl := HLn.out; have hbl := HBn.out; (have hsub : (br.length : Int) - (fr.length : Int) = (n : Int) := by omega); (have hn0 : n ≤ cB := by omega); (have hnI : (n : Int) ≤ (cB : Int) := by omega); (have hnI4 : (n : Int) ≤ 400000 := by omega); (have hbI : (br.length : Int) ≤ 400000 := by omega); clear hfin hob hmb HV hn hl hbl hn0 hcB; go_wp2_with fail
      go_region
      go_wp2_with fail
      go_end0
      rw [← HN.out]; (have hnl : n ≤ br.length := by have := HN.out; omega); (have hlt2 : (br.take n).length = n := by simp; omega)
      have hS3 : FinSt ⟨Ph, K, T, bf, bt, bw, L, vW, ps, fs⟩ (wr.setCell ⟨bf, 3, none⟩ (.slice adB n cB)) M (backF wh fr) (br.take n) wk op := by
        (have nb : ∀ b, (Value.slice adB n cB).ownBlock = some b → M b ∧ b ≠ bf ∧ b ≠ bw := fun b e => HMB.out b (by cases adB with | none => cases e | some a => exact e)); (refine HF.out.fins (adB := adB) (cB := cB) (fun b hb hKb => ?_) ?_ ?_ ?_ (by rw [hlt2]; exact nb) (fun b h => h) (fun b h => Or.inl h) (fun b h => ?_))
        · refine blk_other _ ?_
          rcases hKb with h1 | h1
          · exact fun e => (HF.out.km b h1).1 (e ▸ HF.out.mf)
          · exact fun e => HF.out.ne (e.symm.trans h1)
        · rw [size_set]
          exact Nat.le_refl _
        · rw [blk_set HFi.out, hlt2]
          rfl
        · rw [hlt2]
          (exact owns_same (owns_prefix HOB.out n hnl) fun b e => blk_other _ (nb b e).2.1)
        · rw [size_set]
          exact HF.out.old b h
      (refine ⟨rfl, hS3.up (Below.refl _ _).drew, (kept_far HK.out (kept_set (b := bf) (ok := fun c => c ≠ bf) fun c hc => hc) fun c _ hm e => hm (e ▸ HS.out.mf)).drew⟩)
theorem FinSt.work {x : Fx} {w : World} {M : Nat → Prop} {wh br : List Nat} {wk : Nat} {op : Bool} (h : FinSt x w M wh br wk op) (n : Nat) : FinSt x (w.setCell ⟨x.bf, 4, none⟩ (.int .i64 (n : Nat))) M wh br n op := by
  obtain ⟨adB, cB, h1, h2, h3⟩ := h.fin; (refine h.fins (adB := adB) (cB := cB) (fun b _ hk => blk_other _ ?_) (by rw [size_set]; exact Nat.le_refl _) ?_ (owns_same h2 fun b e => blk_other _ (h3 b e).2.1) h3 (fun b hm => hm) (fun b hm => Or.inl hm) (fun b hm => by rw [size_set]; exact h.old b hm))
  · rcases hk with hk | hk
    · exact fun e => (h.km b hk).1 (e ▸ h.mf)
    · exact fun e => h.ne (e.symm.trans hk)
  · rw [blk_set h1]
    rfl
theorem FinSt.opn {x : Fx} {w : World} {M : Nat → Prop} {wh br : List Nat} {wk : Nat} {op : Bool} (h : FinSt x w M wh br wk op) (o : Bool) : FinSt x (w.setCell ⟨x.bf, 5, none⟩ (.bool o)) M wh br wk o := by
  obtain ⟨adB, cB, h1, h2, h3⟩ := h.fin; (refine h.fins (adB := adB) (cB := cB) (fun b _ hk => blk_other _ ?_) (by rw [size_set]; exact Nat.le_refl _) ?_ (owns_same h2 fun b e => blk_other _ (h3 b e).2.1) h3 (fun b hm => hm) (fun b hm => Or.inl hm) (fun b hm => by rw [size_set]; exact h.old b hm))
  · rcases hk with hk | hk
    · exact fun e => (h.km b hk).1 (e ▸ h.mf)
    · exact fun e => h.ne (e.symm.trans hk)
  · rw [blk_set h1]
    rfl
end Go.Proofs.YtalnljnincnbdacGreat
/- Walks: how many premises do not end at once. -/
namespace Go.Proofs.YtalnljnincnbdacGreat
open Go.RowKit Go.Sort

set_option maxRecDepth 10000 in
set_option maxHeartbeats 4000000 in
theorem opens_any {x : Fx} (hwl : WayLt x) {w : World} {M : Nat → Prop} {wh br : List Nat} {wk : Nat} {op : Bool} (h : FinSt x w M wh br wk op) (i : Nat) (hi : i < x.L) :
    Calls Tryz.prog 140 #[.pointer (some ⟨x.bf, 0, none⟩), .int .i64 (i : Nat)] w fun e w' => ∃ c : Nat, e = .returned (.int .i64 (c : Nat)) ∧ c ≤ 2 ∧ Below w.heap.size w w' := by
  have HS : Hid (FinSt x w M wh br wk op) := h; obtain ⟨b, cW, s, adP, cP, hvW, hc1, hc2, hKb, hs, hu, -, hpr⟩ := h.way hi; have HWl : Hid ((wayOf x.ps i).2.length ≤ 2 ∧ ∀ pr ∈ (wayOf x.ps i).2, pr.length ≤ 2 ∧ ∀ j ∈ pr, j < x.L) := hwl i hi; have HPr : Hid (PRows x.K w (.slice adP (wayOf x.ps i).2.length cP) (wayOf x.ps i).2) := hpr; (have HPD : Hid (PredI 95 #[.pointer (some ⟨x.bf, 0, none⟩)] #[] (fun i => !(closeR x.ps wh i).isEmpty) (· < x.L) (fun w => FinSt x w M wh br wk op)) := predCloses); have hL2 := h.l2; have hpl := h.plen; obtain ⟨adB, cB, hfin, -, -⟩ := h.fin; obtain ⟨q0, q1, q2, -⟩ := blk6 hfin; (have hiI : (i : Int) < (x.L : Int) := by omega); (have hicI : (i : Int) < (cW : Int) := by omega); (have hLI : (x.L : Int) ≤ 200000 := by omega); have hl2 : (wayOf x.ps i).2.length ≤ 2 := HWl.out.1; rw [hvW] at q1; clear h hfin hL2 hpl hwl hvW hKb hpr; generalize (wayOf x.ps i).2 = prs at *; (have hlI : (prs.length : Int) ≤ 2 := by omega)
  go_enter Tryz.func140, Tryz.ntmps140
  go_wp2_with fail
  go_loopg [17, 5] prs.length (fun g c o wr => ∃ k n : Nat, k ≤ prs.length ∧ g = prs.length - k ∧ c = .int .i64 (k : Nat) ∧ o = .int .i64 (n : Nat) ∧ n ≤ k ∧ Hid (Below w.heap.size w wr))
  case atStart => exact ⟨0, 0, by omega, by omega, rfl, rfl, by omega, Below.refl _ _⟩
  case round =>
    obtain ⟨k, n, hk, hg, rfl, rfl, hn, HB⟩ := hrel; have HG : Hid (gk = prs.length - k) := hg; have HNk : Hid (n ≤ k) := hn; (have hn2 : (n : Int) ≤ 2 := by omega); clear hg hn; by_cases hlt : k < prs.length
    · obtain ⟨pr, hpr⟩ : ∃ pr, prs[k]? = some pr := ⟨_, List.getElem?_eq_getElem hlt⟩
      (obtain ⟨bp, off, aj, cj, rfl, hKp, hcell, hrow, hcp, hcm⟩ := (HPr.out.move (P' := fun _ => True) (w' := wr) fun b hb _ => ⟨HB.out.block b hb, trivial⟩).some' hpr); (have hltI : (k : Int) < (prs.length : Int) := by omega); (have hltc : (k : Int) < (cP : Int) := by omega); have HC : Hid (Calls Tryz.prog 173 #[.slice aj pr.length cj, .func (.func 95) #[.pointer (some ⟨x.bf, 0, none⟩)] #[]] wr _) := cntFunc_it HPD.out pr (HWl.out.2 pr (List.mem_of_getElem? hpr)).2 _ wr hrow (HS.out.up HB.out); (generalize (pr.any fun i => !(closeR x.ps wh i).isEmpty) = bb at *); clear hrow hpr hKp hcp hcm
      cases bb
      · go_wp2_with fail
        refine HC.out.mono ?_; rintro e w1 ⟨rfl, hb1⟩; have HB1 : Hid (Below w.heap.size w w1) := below_join HB.out hb1; clear hb1; go_wp2_with fail
        go_roundg (prs.length - (k + 1))
        case measure => have := HG.out; omega
        case rel => exact ⟨k + 1, n + 1, by omega, rfl, by go_num, by go_num, by have := HNk.out; omega, HB1⟩
      · go_wp2_with fail
        refine HC.out.mono ?_; rintro e w1 ⟨rfl, hb1⟩; have HB1 : Hid (Below w.heap.size w w1) := below_join HB.out hb1; clear hb1; go_wp2_with fail
        go_roundg (prs.length - (k + 1))
        case measure => have := HG.out; omega
        case rel => exact ⟨k + 1, n, by omega, rfl, by go_num, rfl, by have := HNk.out; omega, HB1⟩
    · have hge : ¬ (k : Int) < (prs.length : Int) := by omega
      go_wp2_with fail; go_ret; (exact ⟨n, rfl, by have := HNk.out; omega, HB.out⟩)
end Go.Proofs.YtalnljnincnbdacGreat
/- Walks: the plan that ends a branch. -/
namespace Go.Proofs.YtalnljnincnbdacGreat
open Go.RowKit Go.Sort

theorem blk4a {w : World} {b : Nat} {c0 c1 c2 c3 : Value} {T : TypeId} (h : w.heap[b]? = some (.cells #[c0, c1, c2, c3] T (0, 0))) : w.cell? ⟨b, 0, none⟩ = some c0 ∧ w.cell? ⟨b, 1, none⟩ = some c1 ∧ w.cell? ⟨b, 2, none⟩ = some c2 ∧ w.cell? ⟨b, 3, none⟩ = some c3 ∧ w.frozen? ⟨b, 0, none⟩ = false ∧ w.frozen? ⟨b, 1, none⟩ = false ∧ w.frozen? ⟨b, 2, none⟩ = false ∧ w.frozen? ⟨b, 3, none⟩ = false :=
  ⟨blk_cell h 0, blk_cell h 1, blk_cell h 2, blk_cell h 3, blk_fz h 0, blk_fz h 1, blk_fz h 2, blk_fz h 3⟩
theorem PlanR.leaf {P : Nat → Prop} {w : World} {a : ByteArray} {i : Nat} {needs : List Nat} {vn : Value} (ha : a.size ≤ maxLen) (hn : IRow P w vn needs) : PlanR P w (.mk a i needs []) (.agg #[.string a, .int .i64 (i : Nat), vn, .slice none 0 0]) :=
  PlanR.mk a i needs [] vn none 0 0 0 (fun _ => .bool false) ha hn (Nat.le_refl _) (Nat.zero_le _) (fun h => absurd rfl h) (fun j hj => by simp at hj) (fun j k hj => by simp at hj)
theorem p4_size (w : World) (r : Nat) (v0 v1 v2 v3 : Value) : ((((w.setCell ⟨r, 0, none⟩ v0).setCell ⟨r, 1, none⟩ v1).setCell ⟨r, 2, none⟩ v2).setCell ⟨r, 3, none⟩ v3).heap.size = w.heap.size := by
  rw [size_set, size_set, size_set, size_set]
theorem p4_other {w : World} {r b : Nat} (v0 v1 v2 v3 : Value) (h : b ≠ r) : ((((w.setCell ⟨r, 0, none⟩ v0).setCell ⟨r, 1, none⟩ v1).setCell ⟨r, 2, none⟩ v2).setCell ⟨r, 3, none⟩ v3).heap[b]? = w.heap[b]? := by
  rw [blk_other _ h, blk_other _ h, blk_other _ h, blk_other _ h]
theorem p4_same {w : World} {r : Nat} {c0 c1 c2 c3 : Value} {T : TypeId} (v0 v1 v2 v3 : Value) (h : w.heap[r]? = some (.cells #[c0, c1, c2, c3] T (0, 0))) : ((((w.setCell ⟨r, 0, none⟩ v0).setCell ⟨r, 1, none⟩ v1).setCell ⟨r, 2, none⟩ v2).setCell ⟨r, 3, none⟩ v3).heap[r]? = some (.cells #[v0, v1, v2, v3] T (0, 0)) := by
  rw [blk_set (blk_set (blk_set (blk_set h v0) v1) v2) v3]; rfl
theorem p4_below {B : Nat} {w w1 : World} {r : Nat} (v0 v1 v2 v3 : Value) (h : Below B w w1) (hr : B ≤ r) : Below B w ((((w1.setCell ⟨r, 0, none⟩ v0).setCell ⟨r, 1, none⟩ v1).setCell ⟨r, 2, none⟩ v2).setCell ⟨r, 3, none⟩ v3) :=
  (((h.setCell (p := ⟨r, 0, none⟩) hr _).setCell (p := ⟨r, 1, none⟩) hr _).setCell (p := ⟨r, 2, none⟩) hr _).setCell (p := ⟨r, 3, none⟩) hr _
/-- What ends a branch is a plan. -/
theorem close_plan {ps : List PartM} {wh : List Nat} {i : Nat} (hi : i < 2 * ps.length) (h1 : wh.getD i 0 = 1) (s : ByteArray) (hs : s.data.toList = closeR ps wh i) (hne : closeR ps wh i ≠ []) :
    ((s.data.toList = Ru.ax.text ∧ PlanOk ps (.mk s i [2 * (i / 2), 2 * (i / 2) + 1] []) ∧ ∀ x ∈ [2 * (i / 2), 2 * (i / 2) + 1], wh.getD x 0 = 1) ∨ (s.data.toList ≠ Ru.ax.text ∧ PlanOk ps (.mk s i [i] []) ∧ ∀ x ∈ [i], wh.getD x 0 = 1)) := by
  (have hlt : i / 2 < ps.length := by omega); have hp := List.getElem?_eq_getElem hlt; unfold closeR at hs hne; rw [hp] at hs hne; simp only at hs hne; by_cases e1 : ps[i / 2].kind = 2 ∧ itR i = true
  · rw [if_pos e1] at hs
    (exact Or.inr ⟨by rw [hs]; decide, PlanOk.tr s hs i _ hp e1.1 e1.2, fun x hx => by rw [List.mem_singleton.1 hx]; exact h1⟩)
  · rw [if_neg e1] at hs hne
    by_cases e2 : ps[i / 2].kind = 3 ∧ itR i = false
    · rw [if_pos e2] at hs
      (exact Or.inr ⟨by rw [hs]; decide, PlanOk.fa s hs i _ hp e2.1 e2.2, fun x hx => by rw [List.mem_singleton.1 hx]; exact h1⟩)
    · rw [if_neg e2] at hs hne
      (by_cases e3 : wh.getD (if itR i = true then i - 1 else i + 1) 0 = 1)
      · rw [if_pos e3] at hs
        (refine Or.inl ⟨hs, PlanOk.ax s hs i _ rfl hlt, fun x hx => ?_⟩); have hc := it_cases i; have hr := itR_two (i / 2)
        rcases hc with e | e
        · rw [e, hr.1] at e3
          simp only [Bool.false_eq_true, if_false] at e3; simp only [List.mem_cons, List.not_mem_nil, or_false] at hx
          rcases hx with rfl | rfl
          · rw [← e]; exact h1
          · rw [← e] at e3 ⊢; exact e3
        · rw [e, hr.2] at e3
          simp only [if_true] at e3; simp only [List.mem_cons, List.not_mem_nil, or_false] at hx
          rcases hx with rfl | rfl
          · rw [show 2 * (i / 2) + 1 - 1 = 2 * (i / 2) by omega] at e3; exact e3
          · rw [← e]; exact h1
      · rw [if_neg e3] at hne
        exact absurd rfl hne
set_option maxRecDepth 10000 in
set_option maxHeartbeats 4000000 in
theorem closing_any {x : Fx} {w : World} {M : Nat → Prop} {wh br : List Nat} {wk : Nat} {op : Bool} (h : FinSt x w M wh br wk op) (i : Nat) (hi : i < x.L) (h1 : wh.getD i 0 = 1) (hne : closeR x.ps wh i ≠ []) :
    Calls Tryz.prog 96 #[.pointer (some ⟨x.bf, 0, none⟩), .int .i64 (i : Nat)] w fun e w' => ∃ p v, e = .returned v ∧ PlanR (fun b => w.heap.size ≤ b) w' p v ∧ PlanOk x.ps p ∧ PlanN p ∧ (∀ y ∈ p.needs, wh.getD y 0 = 1) ∧ Below w.heap.size w w' := by
  have HS : Hid (FinSt x w M wh br wk op) := h; (have HC : Hid (∀ W, Below w.heap.size w W → Calls Tryz.prog 137 #[.pointer (some ⟨x.bf, 0, none⟩), .int .i64 (i : Nat)] W _) := fun W hb => closingRule_any (h.up hb) i hi); have hL2 := h.l2; have hpl := h.plen; (have hi3 : i ≤ 3000000 := by omega); (have HP : Hid (∀ W, Calls Tryz.prog 100 #[.int .i64 (i : Nat)] W _) := fun W => part_item i hi3 W); obtain ⟨n, hn⟩ : ∃ n : Nat, n = i / 2 := ⟨_, rfl⟩; (have hn3 : n ≤ 1000000 := by omega); rw [← hn] at HP; (have HAL : Hid (∀ W, Calls Tryz.prog 90 #[.int .i64 (n : Nat)] W _) := fun W => atLeft_item n hn3 W); (have HAR : Hid (∀ W, Calls Tryz.prog 92 #[.int .i64 (n : Nat)] W _) := fun W => atRight_item n hn3 W); obtain ⟨n0, hn0⟩ : ∃ n0 : Nat, n0 = 2 * n := ⟨_, rfl⟩; obtain ⟨n1, hn1⟩ : ∃ n1 : Nat, n1 = 2 * n + 1 := ⟨_, rfl⟩; rw [← hn0] at HAL; rw [← hn1] at HAR
  have HCl : Hid (∀ s : ByteArray, s.data.toList = closeR x.ps wh i → ((s.data.toList = Ru.ax.text ∧ PlanOk x.ps (.mk s i [n0, n1] []) ∧ ∀ y ∈ [n0, n1], wh.getD y 0 = 1) ∨ (s.data.toList ≠ Ru.ax.text ∧ PlanOk x.ps (.mk s i [i] []) ∧ ∀ y ∈ [i], wh.getD y 0 = 1))) := fun s hs => by
    rw [hn0, hn1, hn]; (exact close_plan (by omega) h1 s hs hne)
  (have HNe : Hid (n0 ≠ n1) := by show _ ≠ _; omega); clear h hL2 hpl hi hne h1 hn hn0 hn1 hn3
  go_enter Tryz.func96, Tryz.ntmps96
  go_wp2_with fail; refine (HC.out _ (below_more (Below.refl _ w) _)).mono ?_; rintro e w1 ⟨s, rfl, hs, hs5, hb1⟩; have HB1 : Hid (Below w.heap.size w w1) := below_join (below_more (Below.refl _ w) _) hb1; have HR : Hid (w1.heap[w.heap.size]? = some (.cells #[.string ⟨#[]⟩, .int .i64 0, .slice none 0 0, .slice none 0 0] 85 (0, 0))) := below_keep hb1 (blk_new w _); (have HS5 : Hid (s.size ≤ maxLen) := by show s.size ≤ maxLen; unfold maxLen; omega); (have HZ1 : Hid (w.heap.size < w1.heap.size) := by have := hb1.size; rw [World.size_alloc] at this; exact this); obtain ⟨r0, r1, r2, r3, r4, r5, r6, r7⟩ := blk4a HR.out; have zlt := HZ1.out; (have zlt1 : w.heap.size < w1.heap.size + 1 := by omega); (have zlt2 : w.heap.size < w1.heap.size + 1 + 1 := by omega); (have zlt3 : w.heap.size < w1.heap.size + 1 + 1 + 1 := by omega); (have zne : ¬ w.heap.size = w1.heap.size + 1 := by omega); (have zne2 : ¬ w1.heap.size + 1 = w.heap.size := by omega); clear hb1 hs5
  rcases HCl.out s hs with ⟨hx, hpo, hnd⟩ | ⟨hx, hpo, hnd⟩
  · have es : s = ⟨#[97, 120]⟩ := by
      apply ByteArray.ext; apply Array.ext'; exact hx
    have HPo : Hid (PlanOk x.ps (.mk s i [n0, n1] [])) := hpo; have HNd : Hid (∀ y ∈ [n0, n1], wh.getD y 0 = 1) := hnd; rw [es] at HPo HS5; subst es; clear hx hpo hnd hs
    go_wp2_with (first
      | (go_at_call 100
         refine (HP.out _).mono ?_; rintro e w3 ⟨rfl, hw3⟩
         subst hw3)
      | (go_at_call 90
         refine (HAL.out _).mono ?_; rintro e w3 ⟨rfl, hw3⟩
         subst hw3)
      | (go_at_call 92
         refine (HAR.out _).mono ?_; rintro e w3 ⟨rfl, hw3⟩
         subst hw3)
      | fail)
    (refine bodyPost_ret (v := .agg #[.string ⟨#[97, 120]⟩, .int .i64 (i : Nat), .slice (some ⟨w1.heap.size + 1 + 1, 0, none⟩) 2 2, .slice none 0 0]) (by simp [results, Tryz.results96, go_sem, r0, r1, r2, r3, zlt, zlt1, zlt2]) rfl ⟨.mk ⟨#[97, 120]⟩ i [n0, n1] [], _, rfl, ?_, HPo.out, PlanN.mk _ _ _ _ (by simpa using HNe.out) (fun k hk => by cases hk) (fun k hk => by cases hk), HNd.out, below_more (below_more (below_more (p4_below _ _ _ _ HB1.out (Nat.le_refl _)) _) _) _⟩); (refine PlanR.leaf HS5.out (IRow.two (by omega) ?_ (T := 82))); have := blk_new (((((((w1.setCell ⟨w.heap.size, 0, none⟩ (.string ⟨#[97, 120]⟩)).setCell ⟨w.heap.size, 1, none⟩ (.int .i64 (i : Nat))).setCell ⟨w.heap.size, 2, none⟩ (.slice (some ⟨w1.heap.size + 1 + 1, 0, none⟩) 2 2)).setCell ⟨w.heap.size, 3, none⟩ (.slice none 0 0)).alloc (.cells #[.int .i64 (i : Nat)] 82 (0, 0))).alloc (.cells #[.string ⟨#[97, 120]⟩, .int .i64 (i : Nat), .slice (some ⟨w1.heap.size + 1 + 1, 0, none⟩) 2 2, .slice none 0 0] 85 (0, 0)))) (.cells #[.int .i64 (n0 : Nat), .int .i64 (n1 : Nat)] 82 (0, 0)); rw [World.size_alloc, World.size_alloc, p4_size] at this; exact this
  · have HPo : Hid (PlanOk x.ps (.mk s i [i] [])) := hpo
    have HNd : Hid (∀ y ∈ [i], wh.getD y 0 = 1) := hnd; (have hx' : (s.toList == [97, 120]) = false := by rw [ByteArray.toList_eq]; simp only [beq_eq_false_iff_ne]; exact hx); clear hx hpo hnd hs; go_wp2_with fail; (refine bodyPost_ret (v := .agg #[.string s, .int .i64 (i : Nat), .slice (some ⟨w1.heap.size, 0, none⟩) 1 1, .slice none 0 0]) (by simp [results, Tryz.results96, go_sem, r0, r1, r2, r3, zlt, zlt1]) rfl ⟨.mk s i [i] [], _, rfl, ?_, HPo.out, PlanN.mk _ _ _ _ (by simp) (fun k hk => by cases hk) (fun k hk => by cases hk), HNd.out, below_more (below_more (p4_below _ _ _ _ HB1.out (Nat.le_refl _)) _) _⟩); (refine PlanR.leaf HS5.out (IRow.one (by omega) (alloc_keep ?_ _) (T := 82))); have := blk_new ((((w1.setCell ⟨w.heap.size, 0, none⟩ (.string s)).setCell ⟨w.heap.size, 1, none⟩ (.int .i64 (i : Nat))).setCell ⟨w.heap.size, 2, none⟩ (.slice (some ⟨w1.heap.size, 0, none⟩) 1 1)).setCell ⟨w.heap.size, 3, none⟩ (.slice none 0 0)) (.cells #[.int .i64 (i : Nat)] 82 (0, 0)); rw [p4_size] at this; exact this
end Go.Proofs.YtalnljnincnbdacGreat
