/- Texts of one proof, one behind the other: KG1, KG2. -/
import Derived.Test.YtalnljnincnbdacGreatB21
import Derived.Test.YtalnljnincnbdacGreatB23
/- What a search promises; walks: takeApart. -/
namespace Go.Proofs.YtalnljnincnbdacGreat
open Go.RowKit Go.Sort

def noPlan : Value := .agg #[.string ⟨#[]⟩, .int .i64 0, .slice none 0 0, .slice none 0 0]
def Fx.sz (x : Fx) (j : Nat) : Nat := (itF x.fs j).size
def Fx.mu (x : Fx) (wh : List Nat) : Nat := muF x.sz 0 wh
/-- How a search ends: with a plan for what is here, all being as it was; or not: the branch is open, or the work was too much. -/
def FindPost (x : Fx) (w : World) (M : Nat → Prop) (need : Nat → Prop) (wh br : List Nat) (wk cost : Nat) (e : Ending) (w' : World) : Prop :=
  ∃ M' : Nat → Prop, (∀ b, M' b → M b ∨ w.heap.size ≤ b) ∧ (∀ b, M b → M' b) ∧ Kept (fun b => ¬ M b) w w' ∧
    ((∃ p pv wk', e = .returned (.tuple #[pv, .bool true]) ∧ PlanOk x.ps p ∧ PlanN p ∧ (∀ y ∈ p.needs, need y) ∧ PlanR (fun b => w.heap.size ≤ b ∧ ¬ M' b) w' p pv ∧ FinSt x w' M' wh br wk' false ∧ wk ≤ wk' ∧ wk' ≤ wk + cost ∧ wk' ≤ 67108864 + x.L) ∨
     (∃ op' wh' br' wk', e = .returned (.tuple #[noPlan, .bool false]) ∧ FinSt x w' M' wh' br' wk' op' ∧ wk ≤ wk' ∧ wk' ≤ wk + cost ∧ wk' ≤ 67108864 + x.L + 256 ∧ (∀ j, wh.getD j 0 ≠ 0 → wh'.getD j 0 ≠ 0) ∧
       ((op' = true ∧ OpenS x.ps wh' ∧ (∀ i, i ∈ br' ↔ wh'.getD i 0 ≠ 0) ∧ br'.Nodup) ∨ (op' = false ∧ 67108864 < wk'))))
def FindSpec (x : Fx) (n : Nat) : Prop := ∀ (w : World) (M : Nat → Prop) (wh br fresh : List Nat) (wk : Nat) (v : Value), FinSt x w M wh br wk false → SInv x.ps wh br fresh → IRow (fun b => ¬ M b) w v fresh → x.mu wh < n → wk ≤ 67108864 + x.L →
  Calls Tryz.prog 49 #[.pointer (some ⟨x.bf, 0, none⟩), v] w (FindPost x w M (fun y => wh.getD y 0 = 1) wh br wk ((256 + x.L) * Gf (x.mu wh)))
/-- Of an item that is being taken apart. -/
def OverSpec (x : Fx) (n : Nat) : Prop := ∀ (w : World) (M : Nat → Prop) (wh br : List Nat) (wk i : Nat), FinSt x w M (wh.set i 2) br wk false → SInv x.ps wh br [] → i < x.L → wh.getD i 0 = 1 → (wayOf x.ps i).2 ≠ [] → x.mu wh < n → wk ≤ 67108864 + x.L →
  Calls Tryz.prog 141 #[.pointer (some ⟨x.bf, 0, none⟩), .int .i64 (i : Nat)] w (FindPost x w M (fun y => wh.getD y 0 = 1) (wh.set i 2) br wk ((256 + x.L) * Gf (x.mu wh) - (256 + x.L)))
theorem set_back {wh : List Nat} {i : Nat} (hi : i < wh.length) (h1 : wh.getD i 0 = 1) : (wh.set i 2).set i 1 = wh := by
  rw [List.set_set]; (refine getD_ext (by simp) fun j => ?_); rw [getD_set _ _ _ _ hi]
  split
  · rename_i e; rw [e, h1]
  · rfl
/-- A world that has a block more, and what is done then. -/
theorem FindPost.from {x : Fx} {w w1 w2 : World} {M : Nat → Prop} {need : Nat → Prop} {wh br : List Nat} {wk cost : Nat} {e : Ending} (hk : Kept (fun b => ¬ M b) w w1) (h : FindPost x w1 M need wh br wk cost e w2) : FindPost x w M need wh br wk cost e w2 := by
  obtain ⟨M', h1, h2, h3, h4⟩ := h; have hs := hk.size; (refine ⟨M', fun b hb => ?_, h2, kept_far hk h3 fun _ _ h => h, ?_⟩)
  · rcases h1 b hb with h5 | h5
    · exact Or.inl h5
    · exact Or.inr (by omega)
  · rcases h4 with ⟨p, pv, wk', g1, g2, g3, g4, g5, g6⟩ | h4
    · exact Or.inl ⟨p, pv, wk', g1, g2, g3, g4, g5.move fun b _ hp => ⟨rfl, by omega, hp.2⟩, g6⟩
    · exact Or.inr h4
theorem p4_kept (w : World) (r : Nat) (v0 v1 v2 v3 : Value) : Kept (fun b => b ≠ r) w ((((w.setCell ⟨r, 0, none⟩ v0).setCell ⟨r, 1, none⟩ v1).setCell ⟨r, 2, none⟩ v2).setCell ⟨r, 3, none⟩ v3) :=
  ⟨rfl, rfl, rfl, by rw [p4_size]; exact Nat.le_refl _, fun b _ hb => p4_other _ _ _ _ hb⟩
theorem FinSt.p4 {x : Fx} {w : World} {M : Nat → Prop} {wh br : List Nat} {wk : Nat} {op : Bool} (h : FinSt x w M wh br wk op) {r : Nat} (v0 v1 v2 v3 : Value) (hM : ¬ M r) (hK : ∀ b, x.K b → b ≠ r) : FinSt x ((((w.setCell ⟨r, 0, none⟩ v0).setCell ⟨r, 1, none⟩ v1).setCell ⟨r, 2, none⟩ v2).setCell ⟨r, 3, none⟩ v3) M wh br wk op :=
  h.next (fun b _ hb => p4_other _ _ _ _ (by
    rcases hb with hb | hb
    · exact hK b hb
    · exact fun e => hM (e ▸ hb))) (by rw [p4_size]; exact Nat.le_refl _)
set_option maxRecDepth 10000 in
set_option maxHeartbeats 4000000 in
theorem apart_any {x : Fx} {n : Nat} (hov : OverSpec x n) {w : World} {M : Nat → Prop} {wh br : List Nat} {wk i : Nat} (h : FinSt x w M wh br wk false) (hinv : SInv x.ps wh br []) (hi : i < x.L) (h1 : wh.getD i 0 = 1) (hne : (wayOf x.ps i).2 ≠ []) (hmu : x.mu wh < n) (hwk : wk ≤ 67108864 + x.L) :
    Calls Tryz.prog 98 #[.pointer (some ⟨x.bf, 0, none⟩), .int .i64 (i : Nat)] w (FindPost x w M (fun y => wh.getD y 0 = 1) wh br wk ((256 + x.L) * Gf (x.mu wh) - (256 + x.L))) := by
  generalize hco : (256 + x.L) * Gf (x.mu wh) - (256 + x.L) = cost; have HS : Hid (FinSt x w M wh br wk false) := h
  have HOv : Hid (∀ (W : World), FinSt x W M (wh.set i 2) br wk false → Calls Tryz.prog 141 #[.pointer (some ⟨x.bf, 0, none⟩), .int .i64 (i : Nat)] W (FindPost x W M (fun y => wh.getD y 0 = 1) (wh.set i 2) br wk cost)) := fun W hW => by
    rw [← hco]; exact hov W M wh br wk i hW hinv hi h1 hne hmu hwk
  (have HSb : Hid ((wh.set i 2).set i 1 = wh) := set_back (by rw [h.wlen]; exact hi) h1); (have HIl : Hid (i < wh.length) := by show i < wh.length; rw [h.wlen]; exact hi)
  have HGs : Hid (∀ j, (wh.set i 2).getD j 0 ≠ 0 ↔ wh.getD j 0 ≠ 0) := fun j => by
    rw [getD_set _ _ _ _ HIl.out]; by_cases e : j = i
    · subst e; rw [if_pos rfl]; exact ⟨fun _ => by omega, fun _ => by omega⟩
    · rw [if_neg e]
  have hL2 := h.l2; have hpl := h.plen; (have hiI : (i : Int) < (x.L : Int) := by omega); (have hLI : (x.L : Int) ≤ 200000 := by omega); obtain ⟨adB, cB, hfin, -⟩ := h.fin; obtain ⟨q0, q1, q2, -⟩ := blk6 hfin; obtain ⟨w0, wf0⟩ := h.wcell hi; have zf := lt_of_block hfin; have zw := lt_of_block h.whb; have hS1 := (h.put i 2).up ((Below.refl _ (w.setCell ⟨x.bw, i, none⟩ (.int .i64 (2 : Nat)))).alloc (Nat.le_refl _) (.cells #[.string ⟨#[]⟩, .int .i64 0, .slice none 0 0, .slice none 0 0] 85 (0, 0))); obtain ⟨W1, hW1⟩ : ∃ W1, W1 = ((w.setCell ⟨x.bw, i, none⟩ (.int .i64 2)).alloc (.cells #[.string ⟨#[]⟩, .int .i64 0, .slice none 0 0, .slice none 0 0] 85 (0, 0))) := ⟨_, rfl⟩; (have HS1 : Hid (FinSt x W1 M (wh.set i 2) br wk false) := by rw [hW1]; exact hS1)
  have HR1 : Hid (W1.heap[w.heap.size]? = some (.cells #[.string ⟨#[]⟩, .int .i64 0, .slice none 0 0, .slice none 0 0] 85 (0, 0))) := by
    rw [hW1]; have := blk_new (w.setCell ⟨x.bw, i, none⟩ (.int .i64 2)) (.cells #[.string ⟨#[]⟩, .int .i64 0, .slice none 0 0, .slice none 0 0] 85 (0, 0)); rw [size_set] at this; exact this
  (have HK1 : Hid (Kept (fun b => ¬ M b) w W1) := by rw [hW1]; exact (kept_set fun c hc e => hc (e ▸ h.mw)).alloc _); (have HZ1 : Hid (W1.heap.size = w.heap.size + 1) := by show _ = _; rw [hW1, World.size_alloc, size_set]); have HWe : Hid ((w.setCell ⟨x.bw, i, none⟩ (.int .i64 2)).alloc (.cells #[.string ⟨#[]⟩, .int .i64 0, .slice none 0 0, .slice none 0 0] 85 (0, 0)) = W1) := hW1.symm; have HMo : Hid (∀ b, M b → b < w.heap.size) := h.old; have HMw : Hid (M x.bw) := h.mw; have HI1 : Hid (wh.getD i 0 = 1) := h1; have HI2 : Hid (i < x.L) := hi; clear hov h hinv hne hmu hwk hco hL2 hpl hfin hS1 h1 hW1; generalize wh.getD i 0 = u at w0
  go_enter Tryz.func98, Tryz.ntmps98
  go_wp2_with fail; rw [HWe.out]; refine (HOv.out W1 HS1.out).mono ?_; rintro e w2 ⟨M', hM1, hM2, hK, hcase⟩; have HM1 : Hid (∀ b, M' b → M b ∨ W1.heap.size ≤ b) := hM1; have HM2 : Hid (∀ b, M b → M' b) := hM2; (have HK2 : Hid (Kept (fun b => ¬ M b) w w2) := kept_far HK1.out hK fun _ _ h => h); (have HR2 : Hid (w2.heap[w.heap.size]? = some (.cells #[.string ⟨#[]⟩, .int .i64 0, .slice none 0 0, .slice none 0 0] 85 (0, 0))) := (hK.block w.heap.size (lt_of_block HR1.out) (fun hm => by have := HMo.out _ hm; omega)).trans HR1.out); obtain ⟨r0, r1, r2, r3, r4, r5, r6, r7⟩ := blk4a HR2.out; (have nrf : ¬ w.heap.size = x.bf := by omega); (have nrf' : ¬ x.bf = w.heap.size := by omega); (have nrw : ¬ w.heap.size = x.bw := by omega); (have nrw' : ¬ x.bw = w.heap.size := by omega)
  have HNR : Hid (¬ M' w.heap.size) := fun hm => by
    have h3 := HZ1.out
    rcases HM1.out _ hm with h4 | h4
    · have := HMo.out _ h4
      omega
    · omega
  have HKR : Hid (∀ b, x.K b → b ≠ w.heap.size) := fun b hb e => by
    have := (HS.out.km b hb).2; omega
  clear hM1 hM2 hK q0 q1 q2 w0 wf0
  rcases hcase with ⟨p, pv, wk', rfl, hpo, hpn, hnd, hpr, hst, hw1, hw2, hw3⟩ | ⟨op', wh', br', wk', rfl, hst, hw1, hw2, hw3, hmono, hend⟩
  · obtain ⟨a, j, needs, kids⟩ := p
    obtain ⟨an, cn, sl, cp, rfl, -⟩ := hpr.parts; (have HPr : Hid (PlanR (fun b => W1.heap.size ≤ b ∧ ¬ M' b) w2 (.mk a j needs kids) (.agg #[.string a, .int .i64 (j : Nat), .slice an needs.length cn, .slice sl kids.length cp])) := hpr); have HSt : Hid (FinSt x w2 M' (wh.set i 2) br wk' false) := hst; have HPo : Hid (PlanOk x.ps (.mk a j needs kids) ∧ PlanN (.mk a j needs kids) ∧ (∀ y ∈ (Plan.mk a j needs kids).needs, wh.getD y 0 = 1)) := ⟨hpo, hpn, hnd⟩; have HWk : Hid (wk ≤ wk' ∧ wk' ≤ wk + cost ∧ wk' ≤ 67108864 + x.L) := ⟨hw1, hw2, hw3⟩; obtain ⟨adC, cC, hfin, -⟩ := hst.fin; obtain ⟨q0, q1, q2, -⟩ := blk6 hfin; obtain ⟨w0, wf0⟩ := hst.wcell hi; generalize (wh.set i 2).getD i 0 = u at w0; clear hpr hst hpo hpn hnd hw1 hw2 hw3 hfin; go_wp2_with fail; obtain ⟨Wf, hWf⟩ : ∃ Wf, Wf = (((((((((w2.setCell ⟨w.heap.size, 0, none⟩ (.string a)).setCell ⟨w.heap.size, 1, none⟩ (.int .i64 (j : Nat))).setCell ⟨w.heap.size, 2, none⟩ (.slice an needs.length cn)).setCell ⟨w.heap.size, 3, none⟩ (.slice sl kids.length cp)).setCell ⟨x.bw, i, none⟩ (.int .i64 1)).setCell ⟨w.heap.size, 0, none⟩ (.string a)).setCell ⟨w.heap.size, 1, none⟩ (.int .i64 (j : Nat))).setCell ⟨w.heap.size, 2, none⟩ (.slice an needs.length cn)).setCell ⟨w.heap.size, 3, none⟩ (.slice sl kids.length cp)) := ⟨_, rfl⟩; rw [← hWf]; (have hE : Wf.heap[w.heap.size]? = some (.cells #[.string a, .int .i64 (j : Nat), .slice an needs.length cn, .slice sl kids.length cp] 85 (0, 0)) := by rw [hWf]; exact p4_same _ _ _ _ ((blk_other _ nrw).trans (p4_same _ _ _ _ HR2.out))); obtain ⟨m0, m1, m2, m3, -⟩ := blk4a hE; (refine bodyPost_ret (v := .tuple #[.agg #[.string a, .int .i64 (j : Nat), .slice an needs.length cn, .slice sl kids.length cp], .bool true]) (by clear hWf; simp [results, Tryz.results98, go_sem, m0, m1, m2, m3]) rfl ?_); rw [hWf]; (refine ⟨M', fun b hb => ?_, HM2.out, ?_, ?_⟩)
    · have h3 := HZ1.out
      rcases HM1.out b hb with h4 | h4
      · exact Or.inl h4
      · exact Or.inr (by omega)
    · have k1 := kept_far HK2.out (p4_kept w2 w.heap.size (.string a) (.int .i64 (j : Nat)) (.slice an needs.length cn) (.slice sl kids.length cp)) fun b hb _ e => by omega
      (have k2 := kept_far k1 (kept_set (b := x.bw) (i := i) (v := .int .i64 1) (ok := fun c => c ≠ x.bw) fun c hc => hc) fun b _ hm e => hm (e ▸ HMw.out)); (exact kept_far k2 (p4_kept _ w.heap.size (.string a) (.int .i64 (j : Nat)) (.slice an needs.length cn) (.slice sl kids.length cp)) fun b hb _ e => by omega)
    · refine Or.inl ⟨_, _, wk', rfl, HPo.out.1, HPo.out.2.1, HPo.out.2.2, HPr.out.move fun b hb hp => ?_, ?_, HWk.out⟩
      · have h3 := HZ1.out
        (have nb : b ≠ w.heap.size := by omega); (have nw : b ≠ x.bw := fun e => hp.2 (e ▸ HM2.out _ HMw.out)); (exact ⟨by rw [p4_other _ _ _ _ nb, blk_other _ nw, p4_other _ _ _ _ nb], by omega, hp.2⟩)
      · have f1 := ((HSt.out.p4 (.string a) (.int .i64 (j : Nat)) (.slice an needs.length cn) (.slice sl kids.length cp) HNR.out HKR.out).put i 1).p4 (.string a) (.int .i64 (j : Nat)) (.slice an needs.length cn) (.slice sl kids.length cp) HNR.out HKR.out
        rw [HSb.out] at f1; exact f1
  · have HSt : Hid (FinSt x w2 M' wh' br' wk' op') := hst
    have HWk : Hid (wk ≤ wk' ∧ wk' ≤ wk + cost ∧ wk' ≤ 67108864 + x.L + 256) := ⟨hw1, hw2, hw3⟩; have HMn : Hid (∀ j, (wh.set i 2).getD j 0 ≠ 0 → wh'.getD j 0 ≠ 0) := hmono; have HEn : Hid ((op' = true ∧ OpenS x.ps wh' ∧ (∀ i, i ∈ br' ↔ wh'.getD i 0 ≠ 0) ∧ br'.Nodup) ∨ (op' = false ∧ 67108864 < wk')) := hend; obtain ⟨adC, cC, hfin, -⟩ := hst.fin; obtain ⟨q0, q1, q2, -⟩ := blk6 hfin; obtain ⟨w0, wf0⟩ := hst.wcell hi; generalize wh'.getD i 0 = u at w0; clear hst hw1 hw2 hw3 hfin hmono hend; unfold noPlan; go_wp2_with fail; obtain ⟨Wf, hWf⟩ : ∃ Wf, Wf = (((((((((w2.setCell ⟨w.heap.size, 0, none⟩ (.string ⟨#[]⟩)).setCell ⟨w.heap.size, 1, none⟩ (.int .i64 0)).setCell ⟨w.heap.size, 2, none⟩ (.slice none 0 0)).setCell ⟨w.heap.size, 3, none⟩ (.slice none 0 0)).setCell ⟨x.bw, i, none⟩ (.int .i64 1)).setCell ⟨w.heap.size, 0, none⟩ (.string ⟨#[]⟩)).setCell ⟨w.heap.size, 1, none⟩ (.int .i64 0)).setCell ⟨w.heap.size, 2, none⟩ (.slice none 0 0)).setCell ⟨w.heap.size, 3, none⟩ (.slice none 0 0)) := ⟨_, rfl⟩; rw [← hWf]; (have hE : Wf.heap[w.heap.size]? = some (.cells #[.string ⟨#[]⟩, .int .i64 0, .slice none 0 0, .slice none 0 0] 85 (0, 0)) := by rw [hWf]; exact p4_same _ _ _ _ ((blk_other _ nrw).trans (p4_same _ _ _ _ HR2.out))); obtain ⟨m0, m1, m2, m3, -⟩ := blk4a hE; (refine bodyPost_ret (v := .tuple #[.agg #[.string ⟨#[]⟩, .int .i64 0, .slice none 0 0, .slice none 0 0], .bool false]) (by clear hWf; simp [results, Tryz.results98, go_sem, m0, m1, m2, m3]) rfl ?_); rw [hWf]; (refine ⟨M', fun b hb => ?_, HM2.out, ?_, ?_⟩)
    · have h3 := HZ1.out
      rcases HM1.out b hb with h4 | h4
      · exact Or.inl h4
      · exact Or.inr (by omega)
    · have k1 := kept_far HK2.out (p4_kept w2 w.heap.size (.string ⟨#[]⟩) (.int .i64 0) (.slice none 0 0) (.slice none 0 0)) fun b hb _ e => by omega
      (have k2 := kept_far k1 (kept_set (b := x.bw) (i := i) (v := .int .i64 1) (ok := fun c => c ≠ x.bw) fun c hc => hc) fun b _ hm e => hm (e ▸ HMw.out)); (exact kept_far k2 (p4_kept _ w.heap.size (.string ⟨#[]⟩) (.int .i64 0) (.slice none 0 0) (.slice none 0 0)) fun b hb _ e => by omega)
    · have hlen' : i < wh'.length := by rw [HSt.out.wlen]; exact HI2.out
      (have hnz : wh'.getD i 0 ≠ 0 := HMn.out i ((HGs.out i).2 (by rw [HI1.out]; omega)))
      have gs : ∀ j, (wh'.set i 1).getD j 0 ≠ 0 ↔ wh'.getD j 0 ≠ 0 := fun j => by
        rw [getD_set _ _ _ _ hlen']; by_cases e : j = i
        · subst e; rw [if_pos rfl]; exact ⟨fun _ => hnz, fun _ => by omega⟩
        · rw [if_neg e]
      (refine Or.inr ⟨op', wh'.set i 1, br', wk', rfl, ?_, HWk.out.1, HWk.out.2.1, HWk.out.2.2, fun j hj => (gs j).2 (HMn.out j ((HGs.out j).2 hj)), ?_⟩)
      · exact ((HSt.out.p4 (.string ⟨#[]⟩) (.int .i64 0) (.slice none 0 0) (.slice none 0 0) HNR.out HKR.out).put i 1).p4 (.string ⟨#[]⟩) (.int .i64 0) (.slice none 0 0) (.slice none 0 0) HNR.out HKR.out
      · rcases HEn.out with ⟨h1, h2, h3, h4⟩ | h1
        · exact Or.inl ⟨h1, h2.back hlen' hnz, fun j => (h3 j).trans (gs j).symm, h4⟩
        · exact Or.inr h1
end Go.Proofs.YtalnljnincnbdacGreat
/- Walks: find. -/
namespace Go.Proofs.YtalnljnincnbdacGreat
open Go.RowKit Go.Sort

set_option maxRecDepth 10000 in
set_option maxHeartbeats 8000000 in
theorem find_step {x : Fx} (hwl : WayLt x) {n : Nat} (hov : OverSpec x n) : FindSpec x n := by
  intro w M wh br fresh wk v h hinv hfr hmu hwk; have hfr' := hfr; obtain ⟨adf, cf, rfl, hc1, hc2, -⟩ := hfr'; obtain ⟨cost, hco⟩ : ∃ cost, cost = (256 + x.L) * Gf (x.mu wh) := ⟨_, rfl⟩; rw [← hco]
  have HCo : Hid (256 + x.L ≤ cost) := by
    show 256 + x.L ≤ cost; rw [hco]; have := Gf_pos (x.mu wh); exact Nat.le_trans (Nat.le_of_eq (Nat.mul_one _).symm) (Nat.mul_le_mul_left _ this)
  have HS : Hid (FinSt x w M wh br wk false) := h; have HIv : Hid (SInv x.ps wh br fresh) := hinv; (have HFr : Hid (IRow (fun b => ¬ M b) w (.slice adf fresh.length cf) fresh) := hfr); have HWl : Hid (WayLt x) := hwl; have HMo : Hid (∀ b, M b → b < w.heap.size) := h.old; (have HLo : Hid (∀ i ∈ br, i < x.L) := fun i hi => by have := hinv.lt hi; rw [h.wlen] at this; exact this); (have HFl : Hid (∀ i ∈ fresh, i < x.L) := fun i hi => HLo.out i ((hinv.mem i).2 (by rw [hinv.fresh i hi]; omega))); (have HBr : Hid (br.length ≤ x.L) := by have := hinv.len; rw [h.wlen] at this; exact this)
  have HOv : Hid (∀ (W : World) (M' : Nat → Prop) (i d : Nat), FinSt x W M' wh br d false → SInv x.ps wh br [] → i < x.L → wh.getD i 0 = 1 → (wayOf x.ps i).2 ≠ [] → d ≤ 67108864 + x.L → Calls Tryz.prog 98 #[.pointer (some ⟨x.bf, 0, none⟩), .int .i64 (i : Nat)] W (FindPost x W M' (fun y => wh.getD y 0 = 1) wh br d (cost - (256 + x.L)))) := fun W M' i d h1 h2 h3 h4 h5 h6 => by
    rw [hco]; exact apart_any hov h1 h2 h3 h4 h5 hmu h6
  have HWk : Hid (wk ≤ 67108864 + x.L) := hwk; have hL2 := h.l2; have hpl := h.plen; (have hLI : (x.L : Int) ≤ 200000 := by omega); (have hwI : (wk : Int) ≤ 68000000 := by omega); (have hfI : (fresh.length : Int) ≤ (cf : Int) := by omega); obtain ⟨adB, cB, hfin, -⟩ := h.fin; obtain ⟨q0, q1, q2, q3, q4, q5⟩ := blk6 hfin; have qf4 := blk_fz hfin 4; have zf := lt_of_block hfin; obtain ⟨W1, hW1⟩ : ∃ W1, W1 = ((w.setCell ⟨x.bf, 4, none⟩ (.int .i64 ((wk : Int) + 256))).alloc (.cells #[.string ⟨#[]⟩, .int .i64 0, .slice none 0 0, .slice none 0 0] 85 (0, 0))) := ⟨_, rfl⟩; (have HS1 : Hid (FinSt x W1 M wh br (wk + 256) false) := by rw [hW1]; exact (h.work (wk + 256)).up ((Below.refl _ _).alloc (Nat.le_refl _) _))
  have HR1 : Hid (W1.heap[w.heap.size]? = some (.cells #[.string ⟨#[]⟩, .int .i64 0, .slice none 0 0, .slice none 0 0] 85 (0, 0))) := by
    rw [hW1]; have := blk_new (w.setCell ⟨x.bf, 4, none⟩ (.int .i64 ((wk : Int) + 256))) (.cells #[.string ⟨#[]⟩, .int .i64 0, .slice none 0 0, .slice none 0 0] 85 (0, 0)); rw [size_set] at this; exact this
  (have HK1 : Hid (Kept (fun b => ¬ M b) w W1) := by rw [hW1]; exact (kept_set fun c hc e => hc (e ▸ h.mf)).alloc _); (have HZ1 : Hid (W1.heap.size = w.heap.size + 1) := by show _ = _; rw [hW1, World.size_alloc, size_set]); have HWe : Hid ((w.setCell ⟨x.bf, 4, none⟩ (.int .i64 ((wk : Int) + 256))).alloc (.cells #[.string ⟨#[]⟩, .int .i64 0, .slice none 0 0, .slice none 0 0] 85 (0, 0)) = W1) := hW1.symm; have HMf : Hid (M x.bf) := h.mf
  have HKR : Hid (∀ b, x.K b → b ≠ w.heap.size) := fun b hb e => by
    have := (h.km b hb).2; omega
  have HFin : Hid (br.Nodup ∧ ∀ i, i ∈ br ↔ wh.getD i 0 ≠ 0) := ⟨hinv.nodup, hinv.mem⟩; clear hov hwl h hinv hfr hmu hwk hco hL2 hpl hfin hW1 hc1 hc2; by_cases hbig : 67108864 < wk + 256
  · have hbI : (67108864 : Int) < (wk : Int) + 256 := by omega
    go_enter Tryz.func49, Tryz.ntmps49
    go_wp2_with fail; rw [HWe.out]; obtain ⟨m0, m1, m2, m3, -⟩ := blk4a HR1.out; (refine bodyPost_ret (v := .tuple #[.agg #[.string ⟨#[]⟩, .int .i64 0, .slice none 0 0, .slice none 0 0], .bool false]) (by simp [results, Tryz.results49, go_sem, m0, m1, m2, m3]) rfl ?_); have h1 := HCo.out; have h2 := HWk.out; (exact ⟨M, fun b h => Or.inl h, fun b h => h, HK1.out, Or.inr ⟨false, wh, br, wk + 256, rfl, HS1.out, by omega, by omega, by omega, fun j h => h, Or.inr ⟨rfl, hbig⟩⟩⟩)
  · have hbI : ¬ (67108864 : Int) < (wk : Int) + 256 := by omega
    (have HIF : Hid (Calls Tryz.prog 94 #[.slice adf fresh.length cf, .func (.func 95) #[.pointer (some ⟨x.bf, 0, none⟩)] #[]] W1 _) := idxFunc_it (predCloses (x := x) (M := M) (wh := wh) (br := br) (wk := wk + 256) (op := false)) fresh HFl.out _ W1 (HFr.out.move fun b hb hm => ⟨HK1.out.block b hb hm, trivial⟩) HS1.out); (have nrf : ¬ w.heap.size = x.bf := by omega); (have nrf' : ¬ x.bf = w.heap.size := by omega)
    cases hany : fresh.any fun i => !(closeR x.ps wh i).isEmpty
    · have HQ : Hid (∀ i ∈ fresh, closeR x.ps wh i = []) := fun i hi => by
        have := List.any_eq_false.1 hany i hi; simpa using this
      (have hidx : fIdxN (fun i => !(closeR x.ps wh i).isEmpty) fresh = -1 := by unfold fIdxN; rw [hany]; rfl); rw [hidx] at HIF; have HIv2 : Hid (SInv x.ps wh br []) := HIv.out.quiet HQ.out; clear hany hidx
      go_enter Tryz.func49, Tryz.ntmps49
      go_wp2_with fail; rw [HWe.out]; refine HIF.out.mono ?_; rintro e w2 ⟨rfl, hb2⟩; have HB2 : Hid (Below W1.heap.size W1 w2) := hb2; (have HPk : Hid (Calls Tryz.prog 97 #[.pointer (some ⟨x.bf, 0, none⟩)] w2 _) := pick_any HWl.out (HS1.out.up hb2) (by have := HBr.out; omega) HLo.out (by omega)); clear hb2 q0 q1 q2 q3 q4 q5 qf4; go_wp2_with fail; refine HPk.out.mono ?_; rintro e w3 ⟨best, found, d, rfl, hst, hd, hk3, hyes, hno⟩; have HS3 : Hid (FinSt x w3 M wh br (wk + 256 + d) false) := hst; (have HK3 : Hid (Kept (fun b => ¬ M b) w w3) := kept_far (kept_far HK1.out (kept_of_below HB2.out fun _ h _ => h) fun _ _ h => h) hk3 fun _ _ h => h); (have HR3 : Hid (w3.heap[w.heap.size]? = some (.cells #[.string ⟨#[]⟩, .int .i64 0, .slice none 0 0, .slice none 0 0] 85 (0, 0))) := (hk3.block w.heap.size (Nat.lt_of_lt_of_le (lt_of_block HR1.out) HB2.out.size) (fun hm => by have := HMo.out _ hm; omega)).trans ((HB2.out.block _ (lt_of_block HR1.out)).trans HR1.out)); have HZ3 : Hid (w.heap.size < w3.heap.size) := lt_of_block HR3.out; obtain ⟨r0, r1, r2, r3, r4, r5, r6, r7⟩ := blk4a HR3.out; have HD : Hid (d ≤ br.length) := hd; have HYes : Hid (found = true → best ∈ br ∧ wh.getD best 0 = 1 ∧ tellB x.ps wh best = true) := hyes; have HNo : Hid (found = false → ∀ i ∈ br, wh.getD i 0 = 1 → tellB x.ps wh i = false) := hno; have zlt := HZ3.out; obtain ⟨adC, cC, hfin, -⟩ := hst.fin; obtain ⟨q0, q1, q2, q3, q4, q5⟩ := blk6 hfin; have qf5 := blk_fz hfin 5; clear hst hd hk3 hyes hno hfin HPk HIF
      cases found
      · have HOp : Hid (OpenS x.ps wh) := HIv2.out.opened (HNo.out (by first | rfl | trivial))
        go_wp2_with fail; obtain ⟨Wf, hWf⟩ : ∃ Wf, Wf = (((((w3.setCell ⟨x.bf, 5, none⟩ (.bool true)).setCell ⟨w.heap.size, 0, none⟩ (.string ⟨#[]⟩)).setCell ⟨w.heap.size, 1, none⟩ (.int .i64 0)).setCell ⟨w.heap.size, 2, none⟩ (.slice none 0 0)).setCell ⟨w.heap.size, 3, none⟩ (.slice none 0 0)) := ⟨_, rfl⟩; rw [← hWf]; (have hE : Wf.heap[w.heap.size]? = some (.cells #[.string ⟨#[]⟩, .int .i64 0, .slice none 0 0, .slice none 0 0] 85 (0, 0)) := by rw [hWf]; exact p4_same _ _ _ _ ((blk_other _ nrf).trans HR3.out)); obtain ⟨m0, m1, m2, m3, -⟩ := blk4a hE; (refine bodyPost_ret (v := .tuple #[.agg #[.string ⟨#[]⟩, .int .i64 0, .slice none 0 0, .slice none 0 0], .bool false]) (by clear hWf; simp [results, Tryz.results49, go_sem, m0, m1, m2, m3]) rfl ?_); rw [hWf]; have h1 := HCo.out; have h2 := HWk.out; have h3 := HD.out; have h4 := HBr.out; (have hmr : ¬ M w.heap.size := fun hm => by have := HMo.out _ hm; omega); (refine ⟨M, fun b h => Or.inl h, fun b h => h, kept_far (kept_far HK3.out (kept_set (b := x.bf) (ok := fun c => c ≠ x.bf) fun c hc => hc) fun b _ hm e => hm (e ▸ HMf.out)) (p4_kept _ w.heap.size _ _ _ _) fun b hb _ e => by omega, Or.inr ⟨true, wh, br, wk + 256 + d, rfl, (HS3.out.opn true).p4 _ _ _ _ hmr HKR.out, by omega, by omega, by omega, fun j h => h, Or.inl ⟨rfl, HOp.out, HFin.out.2, HFin.out.1⟩⟩⟩)
      · obtain ⟨hb1, hb2, hb3⟩ := HYes.out (by first | rfl | trivial)
        have hways : (wayOf x.ps best).2 ≠ [] := fun e => by
          unfold tellB at hb3; rw [e] at hb3; simp at hb3
        (have HTA : Hid (Calls Tryz.prog 98 #[.pointer (some ⟨x.bf, 0, none⟩), .int .i64 (best : Nat)] w3 _) := HOv.out w3 M best (wk + 256 + d) HS3.out HIv2.out (HLo.out best hb1) hb2 hways (by have h1 := HD.out; have h2 := HBr.out; omega)); clear hb1 hb2 hb3 hways; go_wp2_with fail; refine HTA.out.mono ?_; rintro e w4 ⟨M', hM1, hM2, hK, hcase⟩; have HM1 : Hid (∀ b, M' b → M b ∨ w3.heap.size ≤ b) := hM1; have HM2 : Hid (∀ b, M b → M' b) := hM2; (have HK4 : Hid (Kept (fun b => ¬ M b) w w4) := kept_far HK3.out hK fun _ _ h => h); (have hmr : ¬ M w.heap.size := fun hm => by have := HMo.out _ hm; omega); have HR4 : Hid (w4.heap[w.heap.size]? = some (.cells #[.string ⟨#[]⟩, .int .i64 0, .slice none 0 0, .slice none 0 0] 85 (0, 0))) := (hK.block w.heap.size zlt hmr).trans HR3.out
        have HNR : Hid (¬ M' w.heap.size) := fun hm => by
          rcases HM1.out _ hm with h4 | h4
          · exact hmr h4
          · omega
        have HMa : Hid (∀ b, M' b → M b ∨ w.heap.size ≤ b) := fun b hb => by
          rcases HM1.out b hb with h4 | h4
          · exact Or.inl h4
          · exact Or.inr (by omega)
        obtain ⟨r0, r1, r2, r3, r4, r5, r6, r7⟩ := blk4a HR4.out; clear hM1 hM2 hK q0 q1 q2 q3 q4 q5 qf5 HTA
        rcases hcase with ⟨p, pv, wk', rfl, hpo, hpn, hnd, hpr, hst, hw1, hw2, hw3⟩ | ⟨op', wh', br', wk', rfl, hst, hw1, hw2, hw3, hmono, hend⟩
        · obtain ⟨a, j, needs, kids⟩ := p
          obtain ⟨an, cn, sl, cp, rfl, -⟩ := hpr.parts; (have HPr : Hid (PlanR (fun b => w3.heap.size ≤ b ∧ ¬ M' b) w4 (.mk a j needs kids) (.agg #[.string a, .int .i64 (j : Nat), .slice an needs.length cn, .slice sl kids.length cp])) := hpr); have HSt : Hid (FinSt x w4 M' wh br wk' false) := hst; have HPo : Hid (PlanOk x.ps (.mk a j needs kids) ∧ PlanN (.mk a j needs kids) ∧ (∀ y ∈ (Plan.mk a j needs kids).needs, wh.getD y 0 = 1)) := ⟨hpo, hpn, hnd⟩; have HWn : Hid (wk + 256 + d ≤ wk' ∧ wk' ≤ wk + 256 + d + (cost - (256 + x.L)) ∧ wk' ≤ 67108864 + x.L) := ⟨hw1, hw2, hw3⟩; clear hpr hst hpo hpn hnd hw1 hw2 hw3; go_wp2_with fail; obtain ⟨Wf, hWf⟩ : ∃ Wf, Wf = ((((w4.setCell ⟨w.heap.size, 0, none⟩ (.string a)).setCell ⟨w.heap.size, 1, none⟩ (.int .i64 (j : Nat))).setCell ⟨w.heap.size, 2, none⟩ (.slice an needs.length cn)).setCell ⟨w.heap.size, 3, none⟩ (.slice sl kids.length cp)) := ⟨_, rfl⟩; rw [← hWf]; (have hE : Wf.heap[w.heap.size]? = some (.cells #[.string a, .int .i64 (j : Nat), .slice an needs.length cn, .slice sl kids.length cp] 85 (0, 0)) := by rw [hWf]; exact p4_same _ _ _ _ HR4.out); obtain ⟨m0, m1, m2, m3, -⟩ := blk4a hE; (refine bodyPost_ret (v := .tuple #[.agg #[.string a, .int .i64 (j : Nat), .slice an needs.length cn, .slice sl kids.length cp], .bool true]) (by clear hWf; simp [results, Tryz.results49, go_sem, m0, m1, m2, m3]) rfl ?_); rw [hWf]; have h1 := HCo.out; have h2 := HWk.out; have h3 := HD.out; have h4 := HBr.out; have h5 := HWn.out; (refine ⟨M', HMa.out, HM2.out, kept_far HK4.out (p4_kept _ w.heap.size _ _ _ _) fun b hb _ e => by omega, Or.inl ⟨_, _, wk', rfl, HPo.out.1, HPo.out.2.1, HPo.out.2.2, HPr.out.move fun b hb hp => ⟨p4_other _ _ _ _ (by omega), by omega, hp.2⟩, HSt.out.p4 _ _ _ _ HNR.out HKR.out, by omega, by omega, by omega⟩⟩)
        · have HSt : Hid (FinSt x w4 M' wh' br' wk' op') := hst
          have HWn : Hid (wk + 256 + d ≤ wk' ∧ wk' ≤ wk + 256 + d + (cost - (256 + x.L)) ∧ wk' ≤ 67108864 + x.L + 256) := ⟨hw1, hw2, hw3⟩; have HMn : Hid (∀ j, wh.getD j 0 ≠ 0 → wh'.getD j 0 ≠ 0) := hmono; have HEn : Hid ((op' = true ∧ OpenS x.ps wh' ∧ (∀ i, i ∈ br' ↔ wh'.getD i 0 ≠ 0) ∧ br'.Nodup) ∨ (op' = false ∧ 67108864 < wk')) := hend; clear hst hw1 hw2 hw3 hmono hend; unfold noPlan; go_wp2_with fail; obtain ⟨Wf, hWf⟩ : ∃ Wf, Wf = ((((w4.setCell ⟨w.heap.size, 0, none⟩ (.string ⟨#[]⟩)).setCell ⟨w.heap.size, 1, none⟩ (.int .i64 0)).setCell ⟨w.heap.size, 2, none⟩ (.slice none 0 0)).setCell ⟨w.heap.size, 3, none⟩ (.slice none 0 0)) := ⟨_, rfl⟩; rw [← hWf]; (have hE : Wf.heap[w.heap.size]? = some (.cells #[.string ⟨#[]⟩, .int .i64 0, .slice none 0 0, .slice none 0 0] 85 (0, 0)) := by rw [hWf]; exact p4_same _ _ _ _ HR4.out); obtain ⟨m0, m1, m2, m3, -⟩ := blk4a hE; (refine bodyPost_ret (v := .tuple #[.agg #[.string ⟨#[]⟩, .int .i64 0, .slice none 0 0, .slice none 0 0], .bool false]) (by clear hWf; simp [results, Tryz.results49, go_sem, m0, m1, m2, m3]) rfl ?_); rw [hWf]; have h1 := HCo.out; have h2 := HWk.out; have h3 := HD.out; have h4 := HBr.out; have h5 := HWn.out; (refine ⟨M', HMa.out, HM2.out, kept_far HK4.out (p4_kept _ w.heap.size _ _ _ _) fun b hb _ e => by omega, Or.inr ⟨op', wh', br', wk', rfl, HSt.out.p4 _ _ _ _ HNR.out HKR.out, by omega, by omega, by omega, HMn.out, HEn.out⟩⟩)
    · obtain ⟨y, e1, e2, e3⟩ := fIdxN_pos hany
      rw [e1] at HIF; (have hcl : closeR x.ps wh y ≠ [] := fun e => by rw [e] at e3; simp at e3); have hym : y ∈ fresh := List.mem_of_getElem? e2; (obtain ⟨k, hk⟩ : ∃ k, k = fresh.findIdx fun i => !(closeR x.ps wh i).isEmpty := ⟨_, rfl⟩); rw [← hk] at HIF e2; have hkl := (List.getElem?_eq_some_iff.1 e2).1; obtain ⟨b, off, rfl, hPb, hcell⟩ := HFr.out.some' e2; (have HCl : Hid (∀ W, Below W1.heap.size W1 W → W.cell? ⟨b, off + k, none⟩ = some (.int .i64 (y : Nat))) := fun W hb => (cell_of_block (a := ⟨b, off + k, none⟩) ((hb.block b (Nat.lt_of_lt_of_le (lt_of_cell hcell) HK1.out.size)).trans (HK1.out.block b (lt_of_cell hcell) hPb))).trans hcell); (have HCc : Hid (∀ W, Below W1.heap.size W1 W → Calls Tryz.prog 96 #[.pointer (some ⟨x.bf, 0, none⟩), .int .i64 (y : Nat)] W _) := fun W hb => closing_any (HS1.out.up hb) y (HFl.out y hym) (HIv.out.fresh y hym) hcl); (have hkI : (k : Int) < (fresh.length : Int) := by omega); (have hkc : (k : Int) < (cf : Int) := by omega); clear hany e1 e2 e3 hcl hym hcell hPb hk
      go_enter Tryz.func49, Tryz.ntmps49
      go_wp2_with fail; rw [HWe.out]; refine HIF.out.mono ?_; rintro e w2 ⟨rfl, hb2⟩; have HB2 : Hid (Below W1.heap.size W1 w2) := hb2; have g0 := HCl.out w2 hb2; clear hb2; go_wp2_with fail; refine (HCc.out w2 HB2.out).mono ?_; rintro e w3 ⟨⟨a, j, needs, kids⟩, pv, rfl, hpr, hpo, hpn, hnd, hb3⟩; obtain ⟨an, cn, sl, cp, rfl, -⟩ := hpr.parts; have HB3 : Hid (Below W1.heap.size W1 w3) := below_join HB2.out hb3; (have HPr : Hid (PlanR (fun b => w2.heap.size ≤ b) w3 (.mk a j needs kids) (.agg #[.string a, .int .i64 (j : Nat), .slice an needs.length cn, .slice sl kids.length cp])) := hpr); have HPo : Hid (PlanOk x.ps (.mk a j needs kids) ∧ PlanN (.mk a j needs kids) ∧ (∀ y ∈ (Plan.mk a j needs kids).needs, wh.getD y 0 = 1)) := ⟨hpo, hpn, hnd⟩; have HR3 : Hid (w3.heap[w.heap.size]? = some (.cells #[.string ⟨#[]⟩, .int .i64 0, .slice none 0 0, .slice none 0 0] 85 (0, 0))) := (HB3.out.block _ (lt_of_block HR1.out)).trans HR1.out; obtain ⟨r0, r1, r2, r3, r4, r5, r6, r7⟩ := blk4a HR3.out; clear hpr hpo hpn hnd hb3 q0 q1 q2 q3 q4 q5 qf4 g0; go_wp2_with fail; obtain ⟨Wf, hWf⟩ : ∃ Wf, Wf = ((((w3.setCell ⟨w.heap.size, 0, none⟩ (.string a)).setCell ⟨w.heap.size, 1, none⟩ (.int .i64 (j : Nat))).setCell ⟨w.heap.size, 2, none⟩ (.slice an needs.length cn)).setCell ⟨w.heap.size, 3, none⟩ (.slice sl kids.length cp)) := ⟨_, rfl⟩; rw [← hWf]; (have hE : Wf.heap[w.heap.size]? = some (.cells #[.string a, .int .i64 (j : Nat), .slice an needs.length cn, .slice sl kids.length cp] 85 (0, 0)) := by rw [hWf]; exact p4_same _ _ _ _ HR3.out); obtain ⟨m0, m1, m2, m3, -⟩ := blk4a hE; (refine bodyPost_ret (v := .tuple #[.agg #[.string a, .int .i64 (j : Nat), .slice an needs.length cn, .slice sl kids.length cp], .bool true]) (by clear hWf; simp [results, Tryz.results49, go_sem, m0, m1, m2, m3]) rfl ?_); rw [hWf]; have h1 := HCo.out; have h2 := HWk.out; have h3 := HB2.out.size; have h4 := HZ1.out; (refine ⟨M, fun b h => Or.inl h, fun b h => h, kept_far (kept_far HK1.out (kept_of_below HB3.out fun _ h _ => h) fun _ _ h => h) (p4_kept w3 w.heap.size _ _ _ _) fun b hb _ e => by omega, Or.inl ⟨_, _, wk + 256, rfl, HPo.out.1, HPo.out.2.1, HPo.out.2.2, HPr.out.move fun b hb hp => ?_, (HS1.out.up HB3.out).p4 _ _ _ _ (fun hm => by have := HMo.out _ hm; omega) HKR.out, by omega, by omega, by omega⟩⟩); (exact ⟨p4_other _ _ _ _ (by omega), by omega, fun hm => by have := HMo.out _ hm; omega⟩)
end Go.Proofs.YtalnljnincnbdacGreat
