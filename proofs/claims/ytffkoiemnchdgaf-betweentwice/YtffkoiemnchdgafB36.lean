/- Texts of one proof, one behind the other: BW8. -/
import Derived.Test.YtffkoiemnchdgafB26
import Derived.Test.YtffkoiemnchdgafB35
import Derived.Test.YtffkoiemnchdgafB25
/- Walks: the names of several formulas, if they are plain and few (namesTogether). -/
namespace Go.Proofs.Ytffkoiemnchdgaf
open Go.RowKit Go.Sort

theorem vcode_nil (f : Fm) : vcode f [] = f.pcode := by
  unfold vcode; by_cases h : f.pcode.1 = 0
  · rw [if_pos h, (pcode_ok h).2.2]; simp
  · rw [if_neg h]

/-- What Compact leaves is one's own, too. -/
theorem uniq_own (base g cap : Nat) (zs : List (List UInt8)) (hl : zs.length ≤ 100000) (w : World) (hown : w.ownsRow base 9 1 (.slice (some ⟨g, 0, none⟩) zs.length cap) zs.length (zs.map encStr)) :
    Calls Try.prog 70 #[.slice (some ⟨g, 0, none⟩) zs.length cap] w fun e w' => e = .returned (.slice (some ⟨g, 0, none⟩) (Lib.compact zs).length cap) ∧ KS base w' (some ⟨g, 0, none⟩) cap (Lib.compact zs) ∧ w.grownBy w' (some g) := by
  have hcl := compact_len zs
  rcases hown.2 with ⟨h, -⟩ | ⟨g', cap', cur, hv, hg, hh, h1, h2, h3, h4⟩
  · cases h
  · cases hv
    rw [Nat.mul_one] at h4; have hH := holds_of_block hh h4; (refine (Try.slices_Compact_string g 0 cap zs w hH (by omega) h1).mono ?_); rintro e w' ⟨rfl, q, rfl⟩; refine ⟨rfl, ?_, ?_⟩
    · have hz : (Lib.compact zs ++ List.replicate (zs.length - (Lib.compact zs).length) []).length = zs.length := by simp; omega
      have := ownsRow_sorted (n := q) (os := #[]) hz hg hh h1 h2 h3; rw [grow_empty] at this; have h9 := owns_take this (Lib.compact zs).length hcl; (rw [List.map_append, List.take_append_of_le_length (by simp), List.take_of_length_le (by simp)] at h9); exact h9
    · have := grownBy_sorted (w := w) (g := g) (n := q) (os := #[]) (Lib.compact zs ++ List.replicate (zs.length - (Lib.compact zs).length) []).toArray
      rwa [grow_empty] at this
theorem sort_own (base g cap : Nat) (ss : List (List UInt8)) (hl : ss.length ≤ 100000) (w : World) (hown : KS base w (some ⟨g, 0, none⟩) cap ss) :
    Calls Try.prog 69 #[.slice (some ⟨g, 0, none⟩) ss.length cap] w fun e w' => e = .returned (.tuple #[]) ∧ w'.ownsRow base 9 1 (.slice (some ⟨g, 0, none⟩) ss.length cap) ss.length ((srt ss).map encStr) ∧ w.grownBy w' (some g) := by
  rcases hown.2 with ⟨h, -⟩ | ⟨g', cap', cur, hv, hg, hh, h1, h2, h3, h4⟩
  · cases h
  · cases hv
    rw [Nat.mul_one] at h4; (refine (Try.slices_Sort_string g 0 cap ss w (holds_of_block hh h4) (lt_of_block hh) (by omega)).mono ?_); rintro e w' ⟨rfl, n, os, rfl⟩; exact ⟨rfl, ownsRow_sorted (List.length_mergeSort ..) hg hh h1 h2 h3, grownBy_sorted _⟩

/-- What namesTogether says. -/
def tgcode (fs : List Fm) : Int × Int := if (pfirst fs).1 = 0 then (if 6 < (nmsF fs).length then (2, 0) else (0, 0)) else pfirst fs
def tgnames (fs : List Fm) : List (List UInt8) := if (tgcode fs).1 = 0 then nmsF fs else []

theorem pfirst_ok : ∀ (fs : List Fm), (∀ f ∈ fs, f.pcode.1 = 0) → pfirst fs = (0, 0)
  | [], _ => rfl
  | f :: fs, h => by rw [pfirst, if_pos (h f (by simp))]; exact pfirst_ok fs fun g hg => h g (by simp [hg])
theorem pfirst_at : ∀ (fs : List Fm) (i : Nat) (f : Fm), (∀ g ∈ fs.take i, g.pcode.1 = 0) → fs[i]? = some f → f.pcode.1 ≠ 0 → pfirst fs = f.pcode
  | [], i, f, _, h, _ => by simp at h
  | g :: fs, 0, f, _, h, hp => by simp at h; subst h; rw [pfirst, if_neg hp]
  | g :: fs, i + 1, f, hi, h, hp => by
    (rw [pfirst, if_pos (hi g (by simp))]); (exact pfirst_at fs i f (fun x hx => hi x (by simp [hx])) (by simpa using h) hp)
theorem flat_names (fs : List Fm) : Lib.compact (srt (fs.flatMap nmsU)) = nmsF fs := by
  (refine rising_ext (uniq_rising _) (nmsF_rising fs) fun t => ?_); rw [nmsF_mem, compact_mem]; refine List.mem_mergeSort.trans ?_; rw [List.mem_flatMap]; simp only [nmsU_mem]
theorem nmsU_len {f : Fm} (hp : f.pcode.1 = 0) : (nmsU f).length ≤ 200 := by
  have h1 : (nmsU f).length ≤ (nmsT f).length := by
    unfold nmsU; refine Nat.le_trans (compact_len _) ?_; rw [List.length_mergeSort]; exact Nat.le_refl _
  have h2 : (nmsT f).length ≤ f.size := by
    unfold nmsT; rw [List.length_map, ← allN_len]; exact nmsOf_len _
  have := (pc_fine hp).2; omega

theorem owns_far {w W : World} {ad : Option Addr} {cp : Nat} {L : List (List UInt8)} (h : KS (w.heap.size + 1) W ad cp L) (u0 u1 : Value) : KS w.heap.size ((W.setCell ⟨w.heap.size, 0, none⟩ u0).setCell ⟨w.heap.size, 1, none⟩ u1) ad cp L := by
  rcases h.2 with ⟨h1, h2⟩ | ⟨g, cap, cur, h1, h2, h3, h4⟩
  · exact ⟨h.1, Or.inl ⟨h1, h2⟩⟩
  · refine ⟨h.1, Or.inr ⟨g, cap, cur, h1, by omega, ?_, h4⟩⟩
    (rw [Below.heap_setCell _ _ _ _ (by simp; omega), Below.heap_setCell _ _ _ _ (by simp; omega)]); exact h3

set_option maxRecDepth 10000 in
set_option maxHeartbeats 8000000 in
theorem together_any (fs : List Fm) (hl : fs.length ≤ 10) (v : Value) (w : World) (hv : FL w v fs) :
    Calls Try.prog 39 #[v] w fun e w' => ∃ ad cp, e = .returned (.tuple #[.slice ad (tgnames fs).length cp, .agg #[.int .i64 (tgcode fs).1, .int .i64 (tgcode fs).2]]) ∧ KS w.heap.size w' ad cp (tgnames fs) ∧ Below w.heap.size w w' := by
  obtain ⟨ad0, cap0, rfl, h1, h2, h3⟩ := hv; (have H3 : Hid (fs ≠ [] → ∃ b off, ad0 = some ⟨b, off, none⟩ ∧ Reps w (fun _ => True) b off fs) := h3); (have hlI : (fs.length : Int) ≤ 10 := by omega); (have hlc0 : (fs.length : Int) ≤ (cap0 : Int) := by omega); have HL0 : Hid (fs.length ≤ 10) := hl; have HB0 : Hid (Below w.heap.size w (w.alloc (.cells #[.int .i64 0, .int .i64 0] 29 (0, 0)))) := below_more (Below.refl _ w) _; have HQ0 : Hid ((w.alloc (.cells #[.int .i64 0, .int .i64 0] 29 (0, 0))).heap[w.heap.size]? = some (.cells #[.int .i64 0, .int .i64 0] 29 (0, 0))) := blk_new w _; clear h3 h1 h2 hl
  go_enter Try.func39, Try.ntmps39
  go_wp2_with fail
  go_loopg [11, 4] fs.length (fun g c o wr => ∃ i ad cy L, i ≤ fs.length ∧ g = fs.length - i ∧ c = .int .i64 (i : Nat) ∧ o = .slice ad L.length cy ∧ Hid (Below w.heap.size w wr) ∧ Hid (wr.heap[w.heap.size]? = some (.cells #[.int .i64 0, .int .i64 0] 29 (0, 0))) ∧ Hid (KS (w.heap.size + 1) wr ad cy L) ∧ Hid (L = (fs.take i).flatMap nmsU ∧ L.length ≤ 200 * i) ∧ Hid (∀ f ∈ fs.take i, f.pcode.1 = 0))
  case atStart => exact ⟨0, none, 0, [], by omega, by omega, rfl, rfl, HB0, HQ0, KS.nil, ⟨by simp, by simp⟩, fun f hf => by simp at hf⟩
  case round =>
    obtain ⟨i, ad, cy, L, hi, hg, rfl, rfl, HB, HQ, HK, HL, HP⟩ := hrel; have HG : Hid (gk = fs.length - i) := hg; clear hg; by_cases hlt : i < fs.length
    · obtain ⟨⟨k, n, ks⟩, hfi⟩ : ∃ f, fs[i]? = some f := ⟨_, List.getElem?_eq_getElem hlt⟩
      (obtain ⟨b0, off0, rfl, hrs0⟩ := H3.out (fun e => by rw [e] at hlt; simp at hlt)); obtain ⟨sl, cap, g0, g1, g2, hrep0⟩ := (hrs0.up HB.out).at i k n ks hfi; (have hltI : (i : Int) < (fs.length : Int) := by omega); (have hltc : (i : Int) < (cap0 : Int) := by omega); (have HR : Hid (Rep wr (fun _ => True) (.mk k n ks) (.agg #[.int .i64 k, .string n, .slice sl ks.length cap])) := hrep0); (have hva := fun W (h : Rep W (fun _ => True) (.mk k n ks) (.agg #[.int .i64 k, .string n, .slice sl ks.length cap])) => value_any (.mk k n ks) [] (fun t ht => by cases ht) _ (.slice none 0 0) W h (SL.nil0 (by simp [maxLen]))); rw [vcode_nil] at hva; have HB1 : Hid (Below wr.heap.size wr (wr.alloc (.cells #[.int .i64 k, .string n, .slice sl ks.length cap] 24 (0, 0)))) := (Below.refl _ _).alloc (Nat.le_refl _) _; (have HI : Hid (i < fs.length ∧ i ≤ 10) := ⟨hlt, by have := HL0.out; omega⟩); have HFi : Hid (fs[i]? = some (.mk k n ks)) := hfi; by_cases hpc : (Fm.mk k n ks).pcode.1 = 0
      · have hnm := fun v W h => namesOf_any (.mk k n ks) hpc v W h
        have HLn : Hid ((nmsU (.mk k n ks)).length ≤ 200) := nmsU_len hpc
        have HP2 : Hid (∀ f ∈ fs.take (i + 1), f.pcode.1 = 0) := fun f hf => by
          rw [List.take_add_one, HFi.out] at hf
          rcases List.mem_append.1 hf with h | h
          · exact HP.out f h
          · simp at h; subst h; exact hpc
        have HL2 : Hid (L ++ nmsU (.mk k n ks) = (fs.take (i + 1)).flatMap nmsU) := by
          show _ = _; rw [List.take_add_one, HFi.out, List.flatMap_append, HL.out.1]; simp
        rw [(pcode_ok hpc).2.2] at hva; simp only at hva; generalize nmsU (.mk k n ks) = U at *; (generalize (decide ((0 : Int) = 0) && tv (fun t => decide (t ∈ ([] : List (List UInt8)))) (.mk k n ks)) = bb at *); (have HV : Hid (∀ W, Rep W (fun _ => True) (.mk k n ks) (.agg #[.int .i64 k, .string n, .slice sl ks.length cap]) → Calls Try.prog 68 _ W _) := hva); (have HN : Hid (∀ v W, Rep W (fun _ => True) (.mk k n ks) v → Calls Try.prog 67 #[v] W _) := hnm); clear hva hnm hfi hrs0 hrep0 hpc hlt hi; go_wp2_with fail; refine (HV.out _ (HR.out.up HB1.out)).mono ?_; rintro e w1 ⟨rfl, hb1⟩; have HQ1 : Hid (w1.heap[wr.heap.size]? = some (.cells #[.int .i64 k, .string n, .slice sl ks.length cap] 24 (0, 0))) := below_keep hb1 (blk_new wr _); have HB2 : Hid (Below wr.heap.size wr w1) := below_join HB1.out hb1; clear hb1 g0 g1 g2; obtain ⟨a0, a1, a2, -⟩ := blk3 HQ1.out; have y1 := lt_of_block HQ1.out; go_wp2_with fail; refine (HN.out _ _ (HR.out.up (below_more HB2.out (.cells #[.int .i64 0, .int .i64 0] 29 (0, 0))))).mono ?_; rintro e w2 ⟨adu, cpu, rfl, hsu, hb2⟩; have HB3 : Hid (Below wr.heap.size wr w2) := below_join (below_more HB2.out _) hb2; have HSu : Hid (SL w2 (.slice adu U.length cpu) U) := hsu; have HK2 : Hid (KS (w.heap.size + 1) w2 ad cy L) := HK.out.up HB3.out; have HQ3 : Hid (w2.heap[w.heap.size]? = some (.cells #[.int .i64 0, .int .i64 0] 29 (0, 0))) := below_keep HB3.out HQ.out; have HB4 : Hid (Below w.heap.size w w2) := below_join HB.out HB3.out; (have HSz : Hid (w.heap.size + 1 ≤ w2.heap.size) := by have := lt_of_block HQ3.out; exact this); (have HLl : Hid (L.length + U.length ≤ 10000000) := by have h1 := HL.out.2; have h2 := HLn.out; have h3 := HI.out; show _ ≤ _; omega); clear hb2 hsu a0 a1 a2 y1
        go_wp2_with (first
          | (at_builtin
             refine wpList_appS rfl _ _ rfl (w.heap.size + 1) L U ad cy _ rfl HK2.out rfl HSu.out HSz.out HLl.out ?_; intro ad3 cp3 w3 hown3 hk3 hat3; have HO3 : Hid (KS (w.heap.size + 1) w3 ad3 cp3 (L ++ U)) := hown3; (have hb5 : ∀ j, j < w.heap.size + 1 → w3.heap[j]? = w2.heap[j]? := fun j hj => hk3.block j (by have := HSz.out; omega) (fun e => by have := (World.ownsRow.lt HK2.out j e).1; omega)); (have HB5 : Hid (Below w.heap.size w w3) := ⟨hk3.os.trans HB4.out.os, hk3.tape.trans HB4.out.tape, hk3.output.trans HB4.out.output, by have := hk3.size; have := HB4.out.size; omega, fun j hj => (hb5 j (by omega)).trans (HB4.out.block j hj)⟩); (have HQ5 : Hid (w3.heap[w.heap.size]? = some (.cells #[.int .i64 0, .int .i64 0] 29 (0, 0))) := (hb5 _ (by omega)).trans HQ3.out)
             clear hown3 hk3 hat3 hb5)
          | fail)
        go_roundg (fs.length - (i + 1))
        case measure => have := HG.out; have := HI.out; omega
        case rel => exact ⟨i + 1, ad3, cp3, L ++ U, HI.out.1, rfl, by go_num, by simp, HB5, HQ5, HO3, ⟨HL2.out, by have h1 := HL.out.2; have h2 := HLn.out; simp; omega⟩, HP2⟩
      · have HTc : Hid (tgcode fs = (Fm.mk k n ks).pcode ∧ tgnames fs = []) := by
          have h1 : pfirst fs = (Fm.mk k n ks).pcode := pfirst_at fs i _ HP.out hfi hpc; (have h2 : tgcode fs = (Fm.mk k n ks).pcode := by unfold tgcode; rw [h1, if_neg hpc]); (exact ⟨h2, by unfold tgnames; rw [h2, if_neg hpc]⟩)
        generalize hpq : (Fm.mk k n ks).pcode = pc at *; obtain ⟨c, d⟩ := pc; simp only at hpc hva ⊢; (generalize (decide (c = 0) && tv (fun t => decide (t ∈ ([] : List (List UInt8)))) (.mk k n ks)) = bb at *); (have HV : Hid (∀ W, Rep W (fun _ => True) (.mk k n ks) (.agg #[.int .i64 k, .string n, .slice sl ks.length cap]) → Calls Try.prog 68 _ W _) := hva); (have hcn : (c != 0) = true := by simpa using hpc); clear hva hfi hrs0 hrep0 hlt hi hpq HFi; go_wp2_with fail; refine (HV.out _ (HR.out.up HB1.out)).mono ?_; rintro e w1 ⟨rfl, hb1⟩; have HB2 : Hid (Below w.heap.size w w1) := below_join HB.out (below_join HB1.out hb1); have HQ3 : Hid (w1.heap[w.heap.size]? = some (.cells #[.int .i64 0, .int .i64 0] 29 (0, 0))) := below_keep hb1 (below_keep HB1.out HQ.out); have y1 := lt_of_block HQ3.out; obtain ⟨k1, k2, k3, k4⟩ := blk2 HQ3.out; clear hb1 g0 g1 g2; go_wp2_with fail
        go_region
        all_goals
          go_wp2_with fail; have f2 := alloc_keep (set2 HQ3.out (.int .i64 c) (.int .i64 d)) (.cells #[.int .i64 c, .int .i64 d] 29 (0, 0)); (have b2 := below_more ((HB2.out.setCell (p := ⟨w.heap.size, 0, none⟩) (by simp) (.int .i64 c)).setCell (p := ⟨w.heap.size, 1, none⟩) (by simp) (.int .i64 d)) (.cells #[.int .i64 c, .int .i64 d] 29 (0, 0))); generalize World.alloc _ _ = F at f2 b2 ⊢; obtain ⟨o1, o2, -⟩ := blk2 f2; (exact bodyPost_ret (v := .tuple #[.slice none 0 0, .agg #[.int .i64 c, .int .i64 d]]) (by simp [results, Try.results39, go_sem, o1, o2]) rfl ⟨none, 0, by rw [HTc.out.1, HTc.out.2]; rfl, by rw [HTc.out.2]; exact KS.nil, b2.drew⟩)
    · have hii : i = fs.length := by omega
      subst hii; have hLe := HL.out.1; have hPe := HP.out; rw [List.take_length] at hLe hPe; have hpf := pfirst_ok fs hPe; (have HC : Hid (Lib.compact (srt L) = nmsF fs) := by show _ = _; rw [hLe]; exact flat_names fs); (have HLb : Hid (L.length ≤ 100000) := by have h1 := HL.out.2; have h2 := HL0.out; show _ ≤ _; omega); (have hge : ¬ (fs.length : Int) < (fs.length : Int) := by omega); (have HTc : Hid (tgcode fs = if 6 < (nmsF fs).length then (2, 0) else (0, 0)) := by show _ = _; unfold tgcode; rw [hpf, if_pos rfl]); generalize hNF : nmsF fs = NF at *
      have HTn : Hid (tgnames fs = if 6 < NF.length then [] else NF) := by
        show _ = _; unfold tgnames; rw [HTc.out, hNF]; by_cases h : 6 < NF.length
        · rw [if_pos h, if_pos h]; rfl
        · rw [if_neg h, if_neg h]; rfl
      clear hLe hPe hpf hi hlt HL HP hNF
      rcases HK.out.ne with ⟨rfl, rfl, rfl⟩ | ⟨g, rfl, hgB, hgz, hLc, hcm⟩
      · have hN0 : NF = [] := by rw [← HC.out]; exact uniq_nil
        subst hN0; clear HC HLb; go_wp2_with fail; refine (Try.slices_Sort_string_none _ _ _).mono ?_; rintro e w3 ⟨rfl, hw3⟩; subst hw3; go_wp2_with fail; refine (Try.slices_Compact_string_empty _ _ _).mono ?_; rintro e w4 ⟨rfl, hw4⟩; subst hw4; obtain ⟨k1, k2, k3, k4⟩ := blk2 HQ.out; go_wp2_with fail; have f2 := set2 HQ.out (.int .i64 0) (.int .i64 0); (have b2 := (HB.out.setCell (p := ⟨w.heap.size, 0, none⟩) (by simp) (.int .i64 0)).setCell (p := ⟨w.heap.size, 1, none⟩) (by simp) (.int .i64 0)); generalize World.setCell _ _ _ = F at f2 b2 ⊢; obtain ⟨o1, o2, -⟩ := blk2 f2; (exact bodyPost_ret (v := .tuple #[.slice none 0 0, .agg #[.int .i64 0, .int .i64 0]]) (by simp [results, Try.results39, go_sem, o1, o2]) rfl ⟨none, 0, by rw [HTc.out, HTn.out]; rfl, by rw [HTn.out]; exact KS.nil, b2⟩)
      · have HGb : Hid (w.heap.size + 1 ≤ g ∧ g < wr.heap.size ∧ L.length ≤ cy ∧ cy ≤ maxLen) := ⟨hgB, hgz, hLc, hcm⟩
        have HSo : Hid (Calls Try.prog 69 #[.slice (some ⟨g, 0, none⟩) L.length cy] wr _) := sort_own (w.heap.size + 1) g cy L HLb.out wr HK.out; have hsl : (srt L).length = L.length := List.length_mergeSort ..
        have HUo : Hid (∀ W, W.ownsRow (w.heap.size + 1) 9 1 (.slice (some ⟨g, 0, none⟩) L.length cy) L.length ((srt L).map encStr) → Calls Try.prog 70 #[.slice (some ⟨g, 0, none⟩) L.length cy] W fun e w' => e = .returned (.slice (some ⟨g, 0, none⟩) NF.length cy) ∧ KS (w.heap.size + 1) w' (some ⟨g, 0, none⟩) cy NF ∧ W.grownBy w' (some g)) := fun W h => by
          (have := uniq_own (w.heap.size + 1) g cy (srt L) (by rw [hsl]; exact HLb.out) W (by rw [hsl]; exact h)); rw [hsl, HC.out] at this; exact this
        clear hgB hgz hLc hcm hsl HLb HC; go_wp2_with fail; refine HSo.out.mono ?_; rintro e w3 ⟨rfl, ho3, hg3⟩; have HO3 : Hid (w3.ownsRow _ _ _ _ _ _) := ho3; (have HQ3 : Hid (w3.heap[w.heap.size]? = some (.cells #[.int .i64 0, .int .i64 0] 29 (0, 0))) := (hg3.block _ (lt_of_block HQ.out) (fun e => by have : w.heap.size = g := Option.some.inj e; have := HGb.out; omega)).trans HQ.out); (have HB3 : Hid (Below w.heap.size w w3) := HB.out.trans ⟨hg3.os, hg3.tape, hg3.output, hg3.size, fun j hj => hg3.block j (by have := HB.out.size; omega) (fun e => by have : j = g := Option.some.inj e; have := HGb.out; omega)⟩); clear ho3 hg3; go_wp2_with fail; refine (HUo.out w3 HO3.out).mono ?_; rintro e w4 ⟨rfl, ho4, hg4⟩; have HK4 : Hid (KS (w.heap.size + 1) w4 (some ⟨g, 0, none⟩) cy NF) := ho4; (have HQ4 : Hid (w4.heap[w.heap.size]? = some (.cells #[.int .i64 0, .int .i64 0] 29 (0, 0))) := (hg4.block _ (lt_of_block HQ3.out) (fun e => by have : w.heap.size = g := Option.some.inj e; have := HGb.out; omega)).trans HQ3.out); (have HB4 : Hid (Below w.heap.size w w4) := HB3.out.trans ⟨hg4.os, hg4.tape, hg4.output, hg4.size, fun j hj => hg4.block j (by have := HB3.out.size; omega) (fun e => by have : j = g := Option.some.inj e; have := HGb.out; omega)⟩); clear ho4 hg4; obtain ⟨k1, k2, k3, k4⟩ := blk2 HQ4.out; by_cases h6 : 6 < NF.length
        · have h6I : (6 : Int) < (NF.length : Int) := by omega
          rw [if_pos h6] at HTc HTn; clear h6; go_wp2_with fail; have f2 := set2 HQ4.out (.int .i64 2) (.int .i64 0); (have b2 := (HB4.out.setCell (p := ⟨w.heap.size, 0, none⟩) (by simp) (.int .i64 2)).setCell (p := ⟨w.heap.size, 1, none⟩) (by simp) (.int .i64 0)); generalize World.setCell _ _ _ = F at f2 b2 ⊢; obtain ⟨o1, o2, -⟩ := blk2 f2; (exact bodyPost_ret (v := .tuple #[.slice none 0 0, .agg #[.int .i64 2, .int .i64 0]]) (by simp [results, Try.results39, go_sem, o1, o2]) rfl ⟨none, 0, by rw [HTc.out, HTn.out]; rfl, by rw [HTn.out]; exact KS.nil, b2⟩)
        · have h6I : ¬ (6 : Int) < (NF.length : Int) := by omega
          rw [if_neg h6] at HTc HTn; clear h6; go_wp2_with fail; have f2 := set2 HQ4.out (.int .i64 0) (.int .i64 0); (have b2 := (HB4.out.setCell (p := ⟨w.heap.size, 0, none⟩) (by simp) (.int .i64 0)).setCell (p := ⟨w.heap.size, 1, none⟩) (by simp) (.int .i64 0)); have ks := owns_far HK4.out (.int .i64 0) (.int .i64 0); generalize World.setCell _ _ _ = F at f2 b2 ks ⊢; obtain ⟨o1, o2, -⟩ := blk2 f2; (exact bodyPost_ret (v := .tuple #[.slice (some ⟨g, 0, none⟩) NF.length cy, .agg #[.int .i64 0, .int .i64 0]]) (by simp [results, Try.results39, go_sem, o1, o2]) rfl ⟨_, _, by rw [HTc.out, HTn.out], by rw [HTn.out]; exact ks, b2⟩)
end Go.Proofs.Ytffkoiemnchdgaf
