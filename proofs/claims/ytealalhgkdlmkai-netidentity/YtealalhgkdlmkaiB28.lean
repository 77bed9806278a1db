/- Texts of one proof, one behind the other: NTT. -/
import Derived.Test.YtealalhgkdlmkaiB26
import Derived.Test.YtealalhgkdlmkaiB06
/- Walks: the document's examples of nets: identity, netBegun. -/
namespace Go.Proofs.Ytealalhgkdlmkai
open Go.RowKit Go.Sort

def pBy : ByteArray := ⟨#[112]⟩
def idL (k : Int) : Lm := .mk k ⟨#[]⟩ false [.mk 1 pBy false [], .mk 1 pBy true []]
theorem idL_fine {k : Int} (hk : k = 2 ∨ k = 3) : ∀ f ∈ [idL k], LFine f := fun f hf => by
  simp at hf; subst hf; (exact LFine.two k _ _ hk (LFine.atom pBy false (by decide)) (LFine.atom pBy true (by decide)))
theorem idL_nds (k : Int) : ndsL [idL k] 0 = [⟨k, ⟨#[]⟩, false, 1, 2⟩, ⟨1, pBy, false, 0, 0⟩, ⟨1, pBy, true, 0, 0⟩] := by
  simp [idL, ndsL, ndsF, kidA, kidB, Lm.size, Lm.sizes]
theorem idL_lvs {k : Int} (hk : k = 2 ∨ k = 3) : lvsL [idL k] 0 = [1, 2] := by
  (have : ¬ k = 1 := by omega); simp [idL, lvsL, lvsF, Lm.size, Lm.sizes, this]
theorem idL_net {k : Int} (hk : k = 2 ∨ k = 3) : ∃ c, netC [idL k] [(0, 1)] = .ok (muLink (fun _ => none) (0, 1)) c := by
  (have hs : Lm.sizes [idL k] = 3 := by simp [idL, Lm.size, Lm.sizes]); (have hc : lcodeC [idL k] = .ok (Lm.sizes [idL k]) := lcodeC_of (by simp) (by simp) (idL_fine hk) (by omega)); unfold netC; rw [hc]; simp only; rw [idL_nds, idL_lvs hk]; (have hfit : fitB ⟨1, pBy, false, 0, 0⟩ ⟨1, pBy, true, 0, 0⟩ = true := by unfold fitB; simp)
  have hb : lkBad [⟨k, ⟨#[]⟩, false, 1, 2⟩, ⟨1, pBy, false, 0, 0⟩, ⟨1, pBy, true, 0, 0⟩] [1, 2] (fun _ => none) (0, 1) = none := by
    (have o1 : okL [1, 2].length (fun _ => none) 0 = none := by decide); (have o2 : okL [1, 2].length (fun _ => none) 1 = none := by decide); unfold lkBad; simp only [o1, o2]; simp [hfit]
  (have hff : firstFree (muLink (fun _ => none) (0, 1)) 2 = none := by decide); refine ⟨2, ?_⟩; unfold linkC; (rw [if_neg (by simp), lkAll, hb]); simp only [lkAll]; rw [show [1, 2].length = 2 from rfl, hff]
theorem idL_corr : CorrB [idL 3] [(0, 1)] true := by
  obtain ⟨c, h⟩ := idL_net (k := 3) (Or.inr rfl); unfold CorrB; rw [h]; (refine ⟨fun _ => ?_, fun _ => rfl⟩); unfold CorrN; rw [idL_nds, idL_lvs (Or.inr rfl)]; refine ⟨rfl, ?_⟩; (have c12 : Cn [⟨3, ⟨#[]⟩, false, 1, 2⟩, ⟨1, pBy, false, 0, 0⟩, ⟨1, pBy, true, 0, 0⟩] (lkE [1, 2] (muLink (fun _ => none) (0, 1))) 1 2 := Cn.link 1 2 ⟨0, 1, rfl, rfl, rfl⟩); (have c01 : Cn [⟨3, ⟨#[]⟩, false, 1, 2⟩, ⟨1, pBy, false, 0, 0⟩, ⟨1, pBy, true, 0, 0⟩] (lkE [1, 2] (muLink (fun _ => none) (0, 1))) 0 1 := Cn.par 0 ⟨3, ⟨#[]⟩, false, 1, 2⟩ rfl rfl c12)
  have all : ∀ i, i < 3 → Cn [⟨3, ⟨#[]⟩, false, 1, 2⟩, ⟨1, pBy, false, 0, 0⟩, ⟨1, pBy, true, 0, 0⟩] (lkE [1, 2] (muLink (fun _ => none) (0, 1))) i 1 := fun i hi => by
    (have : i = 0 ∨ i = 1 ∨ i = 2 := by omega)
    rcases this with rfl | rfl | rfl
    · exact c01
    · exact Cn.refl 1 (by simp)
    · exact Cn.symm _ _ c12
  intro i j hi hj; exact Cn.trans _ _ _ (all i hi) (Cn.symm _ _ (all j hj))
theorem idL_not : CorrB [idL 2] [(0, 1)] false := by
  obtain ⟨c, h⟩ := idL_net (k := 2) (Or.inl rfl); unfold CorrB; rw [h]; (refine ⟨fun e => (by cases e), fun hC => ?_⟩); have h1 := hC.1; rw [idL_nds] at h1; (have : jSum [⟨2, ⟨#[]⟩, false, 1, 2⟩, ⟨1, pBy, false, 0, 0⟩, ⟨1, pBy, true, 0, 0⟩] = 2 := by decide); rw [this] at h1; simp at h1
theorem blk_twoN (w : World) (o o' : Obj) : ((w.alloc o).alloc o').heap[w.heap.size]? = some o ∧ ((w.alloc o).alloc o').heap[w.heap.size + 1]? = some o' := ⟨alloc_keep (blk_new _ _) _, by
  (have e1 : (w.alloc o).heap.size = w.heap.size + 1 := by simp)
  rw [← e1]; exact blk_new _ _⟩
set_option maxHeartbeats 1000000 in
theorem identity_any (k : Int) (w : World) :
    Calls Try.prog 33 #[.int .i64 k] w fun e w' => ∃ ad, e = .returned (.slice (some ad) 1 1) ∧ LL w' (.slice (some ad) 1 1) [idL k] ∧ Below w.heap.size w w' := by
  obtain ⟨W, hW⟩ : ∃ W, W = (w.alloc (.cells #[.int .i64 1, .string ⟨#[112]⟩, .bool false, .slice none 0 0, .int .i64 1, .string ⟨#[112]⟩, .bool true, .slice none 0 0] 52 (0, 0))).alloc (.cells #[.int .i64 k, .string ⟨#[]⟩, .bool false, .slice (some ⟨w.heap.size, 0, none⟩) 2 2] 52 (0, 0)) := ⟨_, rfl⟩; (have HB : Hid (Below w.heap.size w W) := by rw [hW]; exact below_more (below_more (Below.refl _ w) _) _)
  have HL : Hid (LL W (.slice (some ⟨w.heap.size + 1, 0, none⟩) 1 1) [idL k]) := by
    obtain ⟨h0, h1⟩ := blk_twoN w (.cells #[.int .i64 1, .string ⟨#[112]⟩, .bool false, .slice none 0 0, .int .i64 1, .string ⟨#[112]⟩, .bool true, .slice none 0 0] 52 (0, 0)) (.cells #[.int .i64 k, .string ⟨#[]⟩, .bool false, .slice (some ⟨w.heap.size, 0, none⟩) 2 2] 52 (0, 0)); rw [← hW] at h0 h1; (have leaf : ∀ g, LRep W (.mk 1 pBy g []) (.agg #[.int .i64 1, .string ⟨#[112]⟩, .bool g, .slice none 0 0]) := fun g => LRep.def.2 ⟨none, 0, rfl, by decide, by simp, by simp, fun h => absurd rfl h⟩); (refine ⟨_, _, rfl, by simp, by unfold maxLen; simp, fun _ => ⟨w.heap.size + 1, 0, rfl, LReps.cons.2 ⟨⟨_, _, _, _, blk_cell h1 0, blk_cell h1 1, blk_cell h1 2, blk_cell h1 3, LRep.def.2 ⟨_, _, rfl, by simp [maxLen, ByteArray.size], by simp, by unfold maxLen; simp, fun _ => ⟨w.heap.size, 0, rfl, LReps.cons.2 ⟨⟨_, _, _, _, blk_cell h0 0, blk_cell h0 1, blk_cell h0 2, blk_cell h0 3, leaf false⟩, LReps.cons.2 ⟨⟨_, _, _, _, blk_cell h0 4, blk_cell h0 5, blk_cell h0 6, blk_cell h0 7, leaf true⟩, LReps.nil⟩⟩⟩⟩⟩, LReps.nil⟩⟩⟩)
  have hWe := hW.symm; clear hW
  go_enter Try.func33, Try.ntmps33
  go_wp2_with fail; go_ret; exact ⟨_, rfl, HL.out, HB.out⟩
theorem PL.oneN {w : World} {b : Nat} {x y : Int} {T : TypeId} (h : w.heap[b]? = some (.cells #[.int .i64 x, .int .i64 y] T (0, 0))) : PL w (.slice (some ⟨b, 0, none⟩) 1 1) [(x, y)] :=
  ⟨_, _, rfl, by simp, by unfold maxLen; simp, fun _ => ⟨b, 0, rfl, fun j p q hj => by
    rcases j with _ | j
    · simp at hj
      obtain ⟨rfl, rfl⟩ := hj; exact ⟨blk_cell h 0, blk_cell h 1⟩
    · simp at hj⟩⟩
theorem netE_id {k : Int} (hk : k = 2 ∨ k = 3) : netE (netC [idL k] [(0, 1)]) = (0, 0) := by
  obtain ⟨c, h⟩ := idL_net hk; rw [h]; rfl
set_option maxRecDepth 10000 in
set_option maxHeartbeats 4000000 in
theorem netBegun_any (w : World) : Calls Try.prog 8 #[] w fun e w' => e = .returned (.bool true) ∧ Below w.heap.size w w' := by
  obtain ⟨c, hc⟩ : ∃ c : Int, (0 : Int) = c := ⟨_, rfl⟩; obtain ⟨d, hd⟩ : ∃ d : Int, (0 : Int) = d := ⟨_, rfl⟩; (have HI : Hid (∀ k W, Calls Try.prog 33 #[.int .i64 k] W _) := fun k W => identity_any k W)
  have H3 : Hid (∀ v u W, LL W v [idL 3] → PL W u [(0, 1)] → Calls Try.prog 12 #[v, u] W fun e w' => e = .returned (.tuple #[.bool true, .agg #[.int .i64 c, .int .i64 d]]) ∧ Below W.heap.size W w') := fun v u W h1 h2 => by
    have := correct_any [idL 3] [(0, 1)] true idL_corr v u W h1 h2; rw [netE_id (Or.inr rfl)] at this; rw [← hc, ← hd]; exact this
  have H2 : Hid (∀ v u W, LL W v [idL 2] → PL W u [(0, 1)] → Calls Try.prog 12 #[v, u] W fun e w' => e = .returned (.tuple #[.bool false, .agg #[.int .i64 c, .int .i64 d]]) ∧ Below W.heap.size W w') := fun v u W h1 h2 => by
    have := correct_any [idL 2] [(0, 1)] false idL_not v u W h1 h2; rw [netE_id (Or.inl rfl)] at this; rw [← hc, ← hd]; exact this
  (have hce : (c == 0) = true := by rw [← hc]; rfl); clear hc hd
  go_enter Try.func8, Try.ntmps8
  go_wp2_with fail; refine (HI.out 3 w).mono ?_; rintro _ w1 ⟨ad1, rfl, hl1, hb1⟩; obtain ⟨X, hX⟩ : ∃ X, X = w1.alloc (.cells #[.int .i64 0, .int .i64 1] 57 (0, 0)) := ⟨_, rfl⟩; (have hbX : Below w1.heap.size w1 X := by rw [hX]; exact below_more (Below.refl _ _) _); (have HX : Hid (PL X (.slice (some ⟨w1.heap.size, 0, none⟩) 1 1) [(0, 1)]) := PL.oneN (T := 57) (by rw [hX]; exact blk_new _ _)); have HL1 : Hid (LL X (.slice (some ad1) 1 1) [idL 3]) := hl1.up hbX; have HB1 : Hid (Below w.heap.size w X) := below_join hb1 hbX; have hXe := hX.symm; clear hX hbX hl1 hb1; go_wp2_with fail; refine (H3.out _ _ _ HL1.out HX.out).mono ?_; rintro _ w2 ⟨rfl, hb2⟩; have HB2 : Hid (Below w.heap.size w w2) := below_join HB1.out hb2; obtain ⟨Y, hY⟩ : ∃ Y, Y = w2.alloc (.cells #[.int .i64 c, .int .i64 d] 28 (0, 0)) := ⟨_, rfl⟩; (have HBY : Hid (Below w.heap.size w Y) := by rw [hY]; exact below_more HB2.out _); (have HYf : Hid (Y.heap[w2.heap.size]? = some (.cells #[.int .i64 c, .int .i64 d] 28 (0, 0))) := by rw [hY]; exact blk_new _ _); have hYe := hY.symm; clear hY hXe hb2; go_wp2_with fail; refine (HI.out 2 Y).mono ?_; rintro _ w3 ⟨ad3, rfl, hl3, hb3⟩; obtain ⟨Z, hZ⟩ : ∃ Z, Z = w3.alloc (.cells #[.int .i64 0, .int .i64 1] 57 (0, 0)) := ⟨_, rfl⟩; (have hbZ : Below w3.heap.size w3 Z := by rw [hZ]; exact below_more (Below.refl _ _) _); (have HZ : Hid (PL Z (.slice (some ⟨w3.heap.size, 0, none⟩) 1 1) [(0, 1)]) := PL.oneN (T := 57) (by rw [hZ]; exact blk_new _ _)); have HL3 : Hid (LL Z (.slice (some ad3) 1 1) [idL 2]) := hl3.up hbZ; have HB3 : Hid (Below Y.heap.size Y Z) := below_join hb3 hbZ; have hZe := hZ.symm; clear hZ hbZ hl3 hb3 hYe; go_wp2_with fail; refine (H2.out _ _ _ HL3.out HZ.out).mono ?_; rintro _ w4 ⟨rfl, hb4⟩; have HB4 : Hid (Below Y.heap.size Y w4) := below_join HB3.out hb4; obtain ⟨V, hV⟩ : ∃ V, V = w4.alloc (.cells #[.int .i64 c, .int .i64 d] 28 (0, 0)) := ⟨_, rfl⟩; (have HBV : Hid (Below Y.heap.size Y V) := by rw [hV]; exact below_more HB4.out _); (have HV1 : Hid (V.heap[w4.heap.size]? = some (.cells #[.int .i64 c, .int .i64 d] 28 (0, 0))) := by rw [hV]; exact blk_new _ _); have HV2 : Hid (V.heap[w2.heap.size]? = some (.cells #[.int .i64 c, .int .i64 d] 28 (0, 0))) := below_keep HBV.out HYf.out; obtain ⟨q0, q1, -⟩ := blk2 HV1.out; obtain ⟨q2, q3, -⟩ := blk2 HV2.out; have hVe := hV.symm; clear hV hZe hb4; go_wp2_with fail; go_ret; exact ⟨rfl, below_join HBY.out HBV.out⟩
end Go.Proofs.Ytealalhgkdlmkai
