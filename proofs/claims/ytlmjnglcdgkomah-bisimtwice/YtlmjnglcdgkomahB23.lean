/- Texts of one proof, one behind the other: SBB, SBC. -/
import Derived.Test.YtlmjnglcdgkomahB22
/- Walks: worlds parted ever further (levelsOf, classes). -/
namespace Go.Proofs.Ytlmjnglcdgkomah
open Go.RowKit Go.Maps Go.WideMaps

theorem NL.getD {w : World} {b n cap : Nat} {l : List Nat} (h : NL w (.slice (some ⟨b, 0, none⟩) n cap) l) : ∀ j, j < (l.map Int.ofNat).length → w.cell? ⟨b, 0 + j, none⟩ = some (.int .i64 ((l.map Int.ofNat).getD j 0)) := fun j hj => by
  rw [List.length_map] at hj; obtain ⟨ad, cp, e, -, hc⟩ := h.at; obtain ⟨b', e2, hc⟩ := hc j l[j] (List.getElem?_eq_getElem hj); simp only [Value.slice.injEq] at e; rw [e2] at e; obtain ⟨e3, -⟩ := e
  cases e3
  rw [Nat.zero_add, hc, List.getD_eq_getElem?_getD, List.getElem?_map, List.getElem?_eq_getElem hj]; rfl
theorem eqN_any {N : Nat} (h0 : 0 < N) (hN : N ≤ 40) (l m : List Nat) (hl : l.length = N) (hm : m.length = N) (a1 a2 : Option Addr) (c1 c2 : Nat) (w : World) (h1 : NL w (.slice a1 N c1) l) (h2 : NL w (.slice a2 N c2) m) :
    Calls Try.prog 98 #[.slice a1 N c1, .slice a2 N c2] w fun e w' => e = .returned (.bool (decide (l = m))) ∧ Below w.heap.size w w' := by
  obtain ⟨b1, rfl⟩ : ∃ b, a1 = some ⟨b, 0, none⟩ := by
    obtain ⟨ad, cp, e, -, hc⟩ := h1.at; (obtain ⟨b', e2, -⟩ := hc 0 l[0] (List.getElem?_eq_getElem (by omega))); simp only [Value.slice.injEq] at e; exact ⟨b', e.1.trans e2⟩
  obtain ⟨b2, rfl⟩ : ∃ b, a2 = some ⟨b, 0, none⟩ := by
    obtain ⟨ad, cp, e, -, hc⟩ := h2.at; (obtain ⟨b', e2, -⟩ := hc 0 m[0] (List.getElem?_eq_getElem (by omega))); simp only [Value.slice.injEq] at e; exact ⟨b', e.1.trans e2⟩
  (refine (Try.slices_Equal_int b1 0 N c1 b2 0 N c2 (l.map Int.ofNat) (m.map Int.ofNat) w (by simp [hl]) (by simp [hm]) (by omega) (by omega) (h1.getD) (h2.getD)).mono ?_); rintro _ w' ⟨rfl, q, rfl⟩; (refine ⟨congrArg (fun b => Ending.returned (Value.bool b)) ?_, below_drewN (Below.refl _ w) q⟩); (rw [List.take_of_length_le (by simp [hl]), List.take_of_length_le (by simp [hm]), Bool.eq_iff_iff, beq_iff_eq, decide_eq_true_iff])
  constructor
  · intro e
    (exact (List.map_inj_right (fun a b h => Int.ofNat.inj h)).1 e)
  · rintro rfl; rfl
theorem infoIs : ∃ i, Try.prog.info? 45 = some i ∧ i.zero = some (.slice none 0 0) ∧ i.size = 1 ∧ i.bytes = 24 := by
  (obtain ⟨i, hi, h⟩ := Option.map_eq_some_iff.1 (show (Try.prog.info? 45).map (fun i => (i.zero, i.size, i.bytes)) = some (some (.slice none 0 0), 1, 24) by kernel_rfl)); simp only [Prod.mk.injEq] at h; exact ⟨i, hi, h.1, h.2.1, h.2.2⟩
/-- Levels in memory: rows of one's own in a row of one's own. -/
structure LvR (B : Nat) (w : World) (ad : Option Addr) (cp : Nat) (ls : List (List Nat)) (vs : List Value) : Prop where
  row : w.ownsRow B 45 1 (.slice ad vs.length cp) vs.length vs
  len : vs.length = ls.length
  each : ∀ (j : Nat) (u : Value) (l : List Nat), vs[j]? = some u → ls[j]? = some l → ∃ a c, u = .slice a l.length c ∧ OwnN B w a c l
theorem OwnN.move {B : Nat} {w w' : World} {ad : Option Addr} {cp : Nat} {l : List Nat} (h : OwnN B w ad cp l) (hk : ∀ (g : Nat) (cur : Array Value), w.heap[g]? = some (.cells cur 3 (0, 0)) → w'.heap[g]? = w.heap[g]?) : OwnN B w' ad cp l :=
  rowM_move h fun g cur _ hh => hk g cur hh
theorem LvR.up {B : Nat} {w w' : World} {ad : Option Addr} {cp : Nat} {ls : List (List Nat)} {vs : List Value} (h : LvR B w ad cp ls vs) (hb : Below w.heap.size w w') : LvR B w' ad cp ls vs :=
  ⟨rowM_up h.row hb, h.len, fun j u l hu hl => by
    obtain ⟨a, c, e, ho⟩ := h.each j u l hu hl
    exact ⟨a, c, e, rowM_up ho hb⟩⟩
/-- When the levels end. -/
structure EndK (N : Nat) (R : Nat → Nat → Bool) (c0 : List Nat) (k : Nat) : Prop where
  before : ∀ i, i < k → levK N R c0 (i + 1) ≠ levK N R c0 i
def levs (N : Nat) (R : Nat → Nat → Bool) (c0 : List Nat) (k : Nat) : List (List Nat) := (List.range (k + 1)).map (levK N R c0)
theorem levs_len (N : Nat) (R : Nat → Nat → Bool) (c0 : List Nat) (k : Nat) : (levs N R c0 k).length = k + 1 := by simp [levs]
theorem levs_get {N : Nat} {R : Nat → Nat → Bool} {c0 : List Nat} {k j : Nat} (h : j ≤ k) : (levs N R c0 k)[j]? = some (levK N R c0 j) := by
  (rw [levs, List.getElem?_map, range_get (by omega)]; rfl)
theorem levs_succ (N : Nat) (R : Nat → Nat → Bool) (c0 : List Nat) (k : Nat) : levs N R c0 (k + 1) = levs N R c0 k ++ [levK N R c0 (k + 1)] := by
  rw [levs, List.range_succ, List.map_append]; rfl
set_option maxRecDepth 10000 in
set_option maxHeartbeats 8000000 in
theorem levels_any {N : Nat} (h0 : 0 < N) (hN : N ≤ 40) (R : Nat → Nat → Bool) (nss : List (List (List UInt8))) (hns : ∀ r ∈ nss, r.length ≤ 30 ∧ ∀ t ∈ r, t.length ≤ 8) (v : Value) (w : World) (hv : VwR w N R nss v) :
    Calls Try.prog 72 #[v] w fun e w' => ∃ k ad cp vs, e = .returned (.slice ad (k + 1) cp) ∧ vs.length = k + 1 ∧ LvR w.heap.size w' ad cp (levs N R (byN nss) k) vs ∧ EndK N R (byN nss) k ∧ levK N R (byN nss) (k + 1) = levK N R (byN nss) k ∧ Below w.heap.size w w' := by
  (have hnl : nss.length = N := by obtain ⟨_, _, -, -, h, -⟩ := hv; exact h); (have HBn : Hid (∀ W, Below w.heap.size w W → Calls Try.prog 96 #[v] W fun e w' => ∃ ad cp, e = .returned (.slice ad N cp) ∧ OwnN W.heap.size w' ad cp (byN nss) ∧ Below W.heap.size W w') := fun W hW => byNames_any hN R nss hns v W (hv.up hW)); (have HPa : Hid (∀ cl vc W, cl.length = N → (∀ n ∈ cl, n < N) → NL W vc cl → Below w.heap.size w W → Calls Try.prog 97 #[v, vc] W fun e w' => ∃ ad cp, e = .returned (.slice ad N cp) ∧ OwnN W.heap.size w' ad cp (partK N R cl) ∧ Below W.heap.size W w') := fun cl vc W h1 h2 h3 hW => parted_any hN R nss cl h1 h2 v vc W (hv.up hW) h3); have HN : Hid (0 < N ∧ N ≤ 40) := ⟨h0, hN⟩; (have hbl : (byN nss).length = N := by rw [byN, numK_len, List.length_map, hnl]); have HLl : Hid (∀ k, (levK N R (byN nss) k).length = N) := levK_len hbl
  have HLt : Hid (∀ k, ∀ n ∈ levK N R (byN nss) k, n < N) := levK_lt fun n hn => by
    have := numK_lt hn; rw [List.length_map, hnl] at this; exact this
  have HTg : Hid (∀ k, (∀ i, i < k → levK N R (byN nss) (i + 1) ≠ levK N R (byN nss) i) → k ≤ N * N) := fun k hk => by
    (have := tog_drop (R := R) hbl (by rw [byN]; exact numK_idem _) k hk); omega
  have HL0 : Hid (byN nss = levK N R (byN nss) 0) := rfl; (have HLs : Hid (∀ k, partK N R (levK N R (byN nss) k) = levK N R (byN nss) (k + 1)) := fun _ => rfl); obtain ⟨g, h, rfl, -⟩ := hv; generalize byN nss = c0 at *; obtain ⟨X, hX⟩ : ∃ X, X = w.alloc (.cells #[.slice (some ⟨g, 0, none⟩) N N, .slice (some ⟨h, 0, none⟩) N N] 84 (0, 0)) := ⟨_, rfl⟩; (have HB0 : Hid (Below w.heap.size w X) := by rw [hX]; exact below_more (Below.refl _ w) _); (have HV0 : Hid (X.heap[w.heap.size]? = some (.cells #[.slice (some ⟨g, 0, none⟩) N N, .slice (some ⟨h, 0, none⟩) N N] 84 (0, 0))) := by rw [hX]; exact blk_new _ _); obtain ⟨q0, q1, -⟩ := blk2 HV0.out; have HXe : Hid (w.alloc (.cells #[.slice (some ⟨g, 0, none⟩) N N, .slice (some ⟨h, 0, none⟩) N N] 84 (0, 0)) = X) := hX.symm; have hNN : N * N ≤ 1600 := Nat.mul_le_mul hN hN; have HNN : Hid (N * N ≤ 1600) := hNN; clear hX hbl hnl h0 hN hns hNN
  go_enter Try.func72, Try.ntmps72
  go_upto_region 1 with fail
  rw [HXe.out]; go_wp2_with fail; refine (HBn.out X HB0.out).mono ?_; rintro _ w1 ⟨ad1, cp1, rfl, ho1, hb1⟩; have HV1 : Hid (w1.heap[w.heap.size]? = some (.cells #[.slice (some ⟨g, 0, none⟩) N N, .slice (some ⟨h, 0, none⟩) N N] 84 (0, 0))) := below_keep hb1 HV0.out; have HB1 : Hid (Below w.heap.size w w1) := below_join HB0.out hb1; have HO1 : Hid (OwnN w.heap.size w1 ad1 cp1 c0) := rowM_low ho1 HB0.out.size; clear ho1 hb1 q0 q1; go_wp2_with fail; obtain ⟨Y, hY⟩ : ∃ Y, Y = w1.alloc (.cells #[.slice ad1 N cp1] 45 (0, 0)) := ⟨_, rfl⟩; have HYe : Hid (w1.alloc (.cells #[.slice ad1 N cp1] 45 (0, 0)) = Y) := hY.symm; rw [← hY]; (have HBY : Hid (Below w.heap.size w Y) := by rw [hY]; exact below_more HB1.out _); (have HVY : Hid (Y.heap[w.heap.size]? = some (.cells #[.slice (some ⟨g, 0, none⟩) N N, .slice (some ⟨h, 0, none⟩) N N] 84 (0, 0))) := by rw [hY]; exact alloc_keep HV1.out _)
  have HL1 : Hid (LvR w.heap.size Y (some ⟨w1.heap.size, 0, none⟩) 1 (levs N R c0 0) [.slice ad1 N cp1]) := by
    (refine ⟨⟨rfl, Or.inr ⟨w1.heap.size, 1, #[.slice ad1 N cp1], rfl, HB1.out.size, by rw [hY]; exact blk_new _ _, by simp, by unfold maxLen; omega, rfl, rfl⟩⟩, by rw [levs_len]; rfl, fun j u l hu hl => ?_⟩)
    have hj : j = 0 := by
      rcases Nat.eq_zero_or_pos j with h | h
      · exact h
      · rw [List.getElem?_eq_none (by simp; omega)] at hu; cases hu
    subst hj; rw [levs_get (Nat.le_refl _)] at hl
    cases hl
    simp at hu; subst hu; have := HLl.out 0; rw [← HL0.out] at this ⊢; (exact ⟨ad1, cp1, by rw [this], by rw [hY]; exact rowM_up HO1.out (below_more (Below.refl _ w1) _)⟩)
  have HY0 : Hid (Below w.heap.size w Y) := HBY.out; clear hY
  go_loopg [3, 4, 5] (N * N + 1) (fun gg x y z wr => ∃ k ad cp vs, gg = N * N + 1 - k ∧ x = .slice ad (k + 1) cp ∧ Hid (vs.length = k + 1) ∧ Hid (LvR w.heap.size wr ad cp (levs N R c0 k) vs) ∧ Hid (EndK N R c0 k) ∧ Hid (wr.heap[w.heap.size]? = some (.cells #[.slice (some ⟨g, 0, none⟩) N N, .slice (some ⟨h, 0, none⟩) N N] 84 (0, 0))) ∧ Hid (Below w.heap.size w wr))
  case atStart => exact ⟨0, _, _, _, by omega, rfl, by show _ = _; rfl, HL1, ⟨fun i hi => by omega⟩, HVY, HY0⟩
  case round =>
    obtain ⟨k, ad, cp, vs, hg, rfl, HVl, HLv, HEk, HVr, HB⟩ := hrel; have HGk : Hid (gk = N * N + 1 - k) := hg; have hkN := HTg.out k HEk.out.before; (have hkI : (k : Int) ≤ 1600 := by have := HNN.out; omega); clear hg; obtain ⟨q0, q1, -⟩ := blk2 HVr.out; (obtain ⟨u, hu⟩ : ∃ u, vs[k]? = some u := ⟨_, List.getElem?_eq_getElem (by have := HVl.out; omega)⟩); obtain ⟨au, cu, hue, hou⟩ := HLv.out.each k u _ hu (levs_get (Nat.le_refl _)); rw [HLl.out k] at hue; subst hue; have hrw := HLv.out.row; obtain ⟨hc1, hc2⟩ := rowM_caps hrw; (obtain ⟨b, rfl, hcb⟩ := rowM_cells hrw (by have := HVl.out; omega)); have c1 := hcb k _ hu; rw [Nat.zero_add] at c1; (have hkc : (k : Int) < (cp : Int) := by have := HVl.out; omega); have HOu : Hid (OwnN w.heap.size wr au cu (levK N R c0 k)) := hou; (have HNu : Hid (NL wr (.slice au N cu) (levK N R c0 k)) := by have := hou.nl; rwa [HLl.out k] at this); have HPc := HPa.out (levK N R c0 k) (.slice au N cu) wr (HLl.out k) (HLt.out k) HNu.out HB.out; clear hkN hu hou hrw hc1 hc2 hcb; go_wp2_with fail; refine HPc.mono ?_; rintro _ w2 ⟨ad2, cp2, rfl, ho2, hb2⟩; rw [HLs.out k] at ho2; have HV2 : Hid (w2.heap[w.heap.size]? = some (.cells #[.slice (some ⟨g, 0, none⟩) N N, .slice (some ⟨h, 0, none⟩) N N] 84 (0, 0))) := below_keep hb2 HVr.out; have HB2 : Hid (Below w.heap.size w w2) := below_join HB.out hb2; have HO2 : Hid (OwnN w.heap.size w2 ad2 cp2 (levK N R c0 (k + 1))) := rowM_low ho2 HB.out.size; have HLv2 : Hid (LvR w.heap.size w2 (some ⟨b, 0, none⟩) cp (levs N R c0 k) vs) := HLv.out.up hb2; have HNu2 : Hid (NL w2 (.slice au N cu) (levK N R c0 k)) := NL.up HNu.out hb2; (have HNw : Hid (NL w2 (.slice ad2 N cp2) (levK N R c0 (k + 1))) := by have := HO2.out.nl; rwa [HLl.out (k + 1)] at this); have HEq := eqN_any HN.out.1 HN.out.2 (levK N R c0 (k + 1)) (levK N R c0 k) (HLl.out _) (HLl.out _) ad2 au cp2 cu w2 HNw.out HNu2.out; clear ho2 hb2 HPc c1 q0 q1; go_wp2_with fail; refine HEq.mono ?_; rintro _ w3 ⟨rfl, hb3⟩; have HV3 : Hid (w3.heap[w.heap.size]? = some (.cells #[.slice (some ⟨g, 0, none⟩) N N, .slice (some ⟨h, 0, none⟩) N N] 84 (0, 0))) := below_keep hb3 HV2.out; have HB3 : Hid (Below w.heap.size w w3) := below_join HB2.out hb3; have HO3 : Hid (OwnN w.heap.size w3 ad2 cp2 (levK N R c0 (k + 1))) := rowM_up HO2.out hb3; have HLv3 : Hid (LvR w.heap.size w3 (some ⟨b, 0, none⟩) cp (levs N R c0 k) vs) := HLv2.out.up hb3; clear hb3 HEq; by_cases he : levK N R c0 (k + 1) = levK N R c0 k
    · rw [decide_eq_true he]
      have HE : Hid (levK N R c0 (k + 1) = levK N R c0 k) := he; clear he; go_wp2_with fail; go_ret; exact ⟨k, _, _, vs, rfl, HVl.out, HLv3.out, HEk.out, HE.out, HB3.out⟩
    · rw [decide_eq_false he]
      have HE : Hid (levK N R c0 (k + 1) ≠ levK N R c0 k) := he
      have HEk1 : Hid (EndK N R c0 (k + 1)) := ⟨fun i hi => by
        rcases Nat.lt_or_ge i k with h1 | h1
        · exact HEk.out.before i h1
        · have : i = k := by omega
          rw [this]; exact he⟩
      clear he; obtain ⟨i0, hi0, hz0, hz1, hz2⟩ := infoIs; have hvl := HVl.out
      go_wp2_with (first
        | (at_builtin
           have hsz := HB3.out.size; have hown := rowM_up HLv3.out.row ((Below.refl _ w3).alloc (Nat.le_refl _) (.cells #[.slice ad2 N cp2] 45 (0, 0))); rw [hvl] at hown; (refine wpList_append_lies _ rfl _ _ 91 rfl w.heap.size 45 i0 (.slice none 0 0) 1 24 Try.underlying91 hi0 hz0 hz1 hz2 rfl (by decide) (.slice (some ⟨b, 0, none⟩) (k + 1) cp) (k + 1) vs rfl hown ⟨w3.heap.size, 0, none⟩ 1 1 [.slice ad2 N cp2] rfl rfl ?_ ?_ (by omega) (by unfold maxLen; omega) (by omega) (by simp; omega) _ rfl ?_)
           · intro j u hu
             rw [add_none, Nat.zero_add, blk_cell (blk_new w3 _)]; simpa using hu
           · intro u hu
             simp at hu; subst hu; rfl
           intro g3 cp3 w4 hown3 hgrow hat hlt3; have hgrow' : (w3.alloc (.cells #[.slice ad2 N cp2] 45 (0, 0))).grownBy w4 (some b) := hgrow
           obtain ⟨curb, hcurb⟩ : ∃ cur, w3.heap[b]? = some (.cells cur 45 (0, 0)) := by
             rcases HLv3.out.row.2 with ⟨h5, -⟩ | ⟨g5, cap5, cur5, hv5, -, hh5, -⟩
             · cases h5
             · simp only [Value.slice.injEq, Option.some.injEq] at hv5
               obtain ⟨e5, -⟩ := hv5
               cases e5
               exact ⟨_, hh5⟩
           have hlb : w.heap.size ≤ b := (World.ownsRow.lt HLv3.out.row b rfl).1; (have HB4 : Hid (Below w.heap.size w w4) := ((HB3.out.alloc hsz _).grown hgrow' (by simp; omega) fun k hk => by cases hk; exact hlb))
           have HMv : Hid (∀ (q : Nat) (cur : Array Value), w3.heap[q]? = some (.cells cur 3 (0, 0)) → w4.heap[q]? = w3.heap[q]?) := fun q cur hq => (hgrow'.block q (by have := lt_of_block hq; simp; omega) fun e => by
             cases e
             rw [hcurb] at hq
             simp at hq).trans (Below.heap_alloc _ _ q (lt_of_block hq))
           have HV4 : Hid (w4.heap[w.heap.size]? = some (.cells #[.slice (some ⟨g, 0, none⟩) N N, .slice (some ⟨h, 0, none⟩) N N] 84 (0, 0))) := (hgrow'.block _ (by have := lt_of_block HV3.out; simp; omega) fun e => by
             cases e
             rw [hcurb] at HV3; have := HV3.out
             simp at this).trans (alloc_keep HV3.out _)
           have HOw3 : Hid (w4.ownsRow w.heap.size 45 1 (.slice (some ⟨g3, 0, none⟩) (k + 1 + 1) cp3) (k + 1 + 1) (vs ++ [.slice ad2 N cp2])) := hown3
           clear hgrow hgrow' hat hown3 hown hsz hlt3 hi0 hz0 hz1 hz2 hcurb hlb)
        | fail)
      have HLv4 : Hid (LvR w.heap.size w4 (some ⟨g3, 0, none⟩) cp3 (levs N R c0 (k + 1)) (vs ++ [.slice ad2 N cp2])) := by
        (refine ⟨?_, by rw [List.length_append, levs_len, hvl]; rfl, fun j u l hu hl => ?_⟩)
        · rw [List.length_append, hvl]
          exact HOw3.out
        · rcases Nat.lt_or_ge j vs.length with hj | hj
          · rw [List.getElem?_append_left hj] at hu
            (rw [levs_succ, List.getElem?_append_left (by rw [levs_len]; omega)] at hl); obtain ⟨a, c, e, ho⟩ := HLv3.out.each j u l hu hl; exact ⟨a, c, e, ho.move HMv.out⟩
          · have hj2 : j = k + 1 := by
              have := (List.getElem?_eq_some_iff.1 hl).1; rw [levs_len] at this; omega
            subst hj2; rw [levs_get (Nat.le_refl _)] at hl
            cases hl
            (rw [List.getElem?_append_right (by omega), hvl] at hu); simp at hu; subst hu; (exact ⟨ad2, cp2, by rw [HLl.out], HO3.out.move HMv.out⟩)
      have hkN := HTg.out (k + 1) HEk1.out.before
      go_roundg (N * N + 1 - (k + 1))
      case measure => have := HGk.out; omega
      case rel => exact ⟨k + 1, _, _, _, rfl, by go_num, by show _ = _; rw [List.length_append, hvl]; rfl, HLv4, HEk1, HV4, HB4⟩
end Go.Proofs.Ytlmjnglcdgkomah
/- Walks: the classes of a view's worlds. -/
namespace Go.Proofs.Ytlmjnglcdgkomah
open Go.RowKit

/-- The classes of worlds with these names. -/
def clsK (N : Nat) (R : Nat → Nat → Bool) (nss : List (List (List UInt8))) : List Nat := lastK N R (byN nss)
set_option maxRecDepth 10000 in
set_option maxHeartbeats 4000000 in
theorem vclasses_any {N : Nat} (h0 : 0 < N) (hN : N ≤ 40) (R : Nat → Nat → Bool) (nss : List (List (List UInt8))) (hns : ∀ r ∈ nss, r.length ≤ 30 ∧ ∀ t ∈ r, t.length ≤ 8) (v : Value) (w : World) (hv : VwR w N R nss v) :
    Calls Try.prog 40 #[v] w fun e w' => ∃ ad cp, e = .returned (.slice ad N cp) ∧ OwnN w.heap.size w' ad cp (clsK N R nss) ∧ Below w.heap.size w w' := by
  (have hnl : nss.length = N := by obtain ⟨_, _, -, -, h, -⟩ := hv; exact h); (have hbl : (byN nss).length = N := by rw [byN, numK_len, List.length_map, hnl]); (have HLe : Hid (∀ k, EndK N R (byN nss) k → levK N R (byN nss) (k + 1) = levK N R (byN nss) k → clsK N R nss = levK N R (byN nss) k) := fun k h1 h2 => lastK_of hbl (by rw [byN]; exact numK_idem _) h1.before h2); have HLl : Hid (∀ k, (levK N R (byN nss) k).length = N) := levK_len hbl
  have HK : Hid (∀ k, EndK N R (byN nss) k → k ≤ 1600) := fun k hk => by
    (have h1 := tog_drop (R := R) hbl (by rw [byN]; exact numK_idem _) k hk.before); have h2 : N * N ≤ 1600 := Nat.mul_le_mul hN hN; omega
  (have HLv : Hid (∀ W, Below w.heap.size w W → Calls Try.prog 72 #[v] W fun e w' => ∃ k ad cp vs, e = .returned (.slice ad (k + 1) cp) ∧ vs.length = k + 1 ∧ LvR W.heap.size w' ad cp (levs N R (byN nss) k) vs ∧ EndK N R (byN nss) k ∧ levK N R (byN nss) (k + 1) = levK N R (byN nss) k ∧ Below W.heap.size W w') := fun W hW => levels_any h0 hN R nss hns v W (hv.up hW)); obtain ⟨g, h, rfl, -⟩ := hv; obtain ⟨X, hX⟩ : ∃ X, X = w.alloc (.cells #[.slice (some ⟨g, 0, none⟩) N N, .slice (some ⟨h, 0, none⟩) N N] 84 (0, 0)) := ⟨_, rfl⟩; (have HB0 : Hid (Below w.heap.size w X) := by rw [hX]; exact below_more (Below.refl _ w) _); (obtain ⟨q0, q1, -⟩ := blk2 (show X.heap[w.heap.size]? = some (.cells #[.slice (some ⟨g, 0, none⟩) N N, .slice (some ⟨h, 0, none⟩) N N] 84 (0, 0)) by rw [hX]; exact blk_new _ _)); have HXe : Hid (w.alloc (.cells #[.slice (some ⟨g, 0, none⟩) N N, .slice (some ⟨h, 0, none⟩) N N] 84 (0, 0)) = X) := hX.symm; clear hX hbl hnl hns h0 hN
  go_enter Try.func40, Try.ntmps40
  go_upto_region 1 with fail
  rw [HXe.out]; go_wp2_with fail; refine (HLv.out X HB0.out).mono ?_; rintro _ w1 ⟨k, ad, cp, vs, rfl, hvl, hlv, hek, hke, hb1⟩; have hk := HK.out k hek; (have hkI : (k : Int) ≤ 1600 := by omega); have HCe := HLe.out k hek hke; (obtain ⟨u, hu⟩ : ∃ u, vs[k]? = some u := ⟨_, List.getElem?_eq_getElem (by omega)⟩); obtain ⟨au, cu, hue, hou⟩ := hlv.each k u _ hu (levs_get (Nat.le_refl _)); rw [HLl.out k] at hue; subst hue; have hrw := hlv.row; obtain ⟨hc1, hc2⟩ := rowM_caps hrw; (obtain ⟨b, rfl, hcb⟩ := rowM_cells hrw (by omega)); have c1 := hcb k _ hu; rw [Nat.zero_add] at c1; (have hkc : (k : Int) < (cp : Int) := by omega)
  have HOu : Hid (OwnN w.heap.size w1 au cu (clsK N R nss)) := by
    show OwnN _ _ _ _ _; rw [HCe]; exact rowM_low hou HB0.out.size
  have HB1 : Hid (Below w.heap.size w w1) := below_join HB0.out hb1; clear hk hvl hlv hek hke hb1 HCe hu hou hrw hc1 hc2 hcb q0 q1; go_wp2_with fail; go_ret; exact ⟨au, cu, rfl, HOu.out, HB1.out⟩
end Go.Proofs.Ytlmjnglcdgkomah
