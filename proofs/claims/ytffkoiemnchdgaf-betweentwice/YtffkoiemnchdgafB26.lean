/- Texts of one proof, one behind the other: BN1. -/
import Derived.Test.YtffkoiemnchdgafB21
import Derived.Test.YtffkoiemnchdgafB22
/- Walks: the names in several formulas (NamesIn). -/
namespace Go.Proofs.Ytffkoiemnchdgaf
open Go.RowKit Go.Sort

/-- The names in formulas, each once, rising. -/
def nmsF (fs : List Fm) : List (List UInt8) := Lib.compact (srt (fs.flatMap nmsT))
theorem nmsF_mem (fs : List Fm) (t : List UInt8) : t ∈ nmsF fs ↔ ∃ f ∈ fs, t ∈ nmsT f := by
  unfold nmsF; rw [compact_mem]; refine List.mem_mergeSort.trans ?_; rw [List.mem_flatMap]
theorem uniq_rising (l : List (List UInt8)) : Rising (Lib.compact (srt l)) := by
  have hs : (srt l).Pairwise (fun a b => decide (a ≤ b) = true) :=
    List.pairwise_mergeSort (fun a b c h1 h2 => by
      simp only [decide_eq_true_eq] at *
      exact List.le_trans h1 h2) (fun a b => by
      simp only [Bool.or_eq_true, decide_eq_true_eq]
      exact List.le_total a b) _
  generalize srt l = zs at *
  have hle : ∀ i j, i ≤ j → j < zs.length → zs.toArray[i]! ≤ zs.toArray[j]! := by
    intro i j hij hj; (rw [getElem!_pos _ i (by simp; omega), getElem!_pos _ j (by simpa using hj)]); simp only [List.getElem_toArray]
    rcases Nat.lt_or_ge i j with h | h
    · have := List.pairwise_iff_getElem.1 hs i j (by omega) hj h
      simpa using this
    · obtain rfl : i = j := by omega
      exact List.le_refl _
  unfold Lib.compact Lib.compactUpTo; rw [Rising, List.pairwise_map]; refine List.Pairwise.imp_of_mem ?_ ((List.pairwise_lt_range (n := zs.length)).filter _); intro i j hi hj hij; have hj1 := List.mem_range.1 (List.mem_filter.1 hj).1
  have hk : zs.toArray[j]! ≠ zs.toArray[j - 1]! := by
    have := (List.mem_filter.1 hj).2; simp only [Lib.keeps, decide_eq_true_eq] at this
    rcases this with h | h
    · omega
    · exact h
  (have h1 := hle i (j - 1) (by omega) (by omega)); (have h2 := hle (j - 1) j (by omega) hj1)
  rcases lt_tot zs.toArray[i]! zs.toArray[j]! with h | h | h
  · exact h
  · rw [h] at h1
    exact absurd (List.le_antisymm h1 h2) hk
  · exact absurd (hle i j (by omega) hj1) (List.not_le.2 h)
theorem nmsF_rising (fs : List Fm) : Rising (nmsF fs) := uniq_rising _
theorem nmsF_one (f : Fm) : nmsF [f] = nmsU f := rising_ext (nmsF_rising _) (nmsU_rising f) fun t => by
  rw [nmsF_mem, nmsU_mem]; simp
theorem LO.reps2 {A B : Nat} {w : World} {v : Value} {fs : List Fm} (h : LO A B w v fs) : ∃ g cap, v = .slice (some ⟨g, 0, none⟩) fs.length cap ∧ fs.length ≤ cap ∧ cap ≤ maxLen ∧ B ≤ g ∧ g < w.heap.size ∧ ∀ (j : Nat) (k : Int) (n : ByteArray) (ks : List Fm), fs[j]? = some (.mk k n ks) → w.cell? ⟨g, j * 3, none⟩ = some (.int .i64 k) ∧ w.cell? ⟨g, j * 3 + 1, none⟩ = some (.string n) := by
  have h0 := h; obtain ⟨g, cap, cs, rfl, hown, hlr⟩ := h; have hlt := hown.lt g rfl; obtain ⟨g', cap', e, h1, h2, hr⟩ := h0.reps; simp only [Value.slice.injEq, Option.some.injEq, Addr.mk.injEq, and_true, true_and] at e; obtain ⟨rfl, rfl⟩ := e; (refine ⟨g, cap, rfl, h1, h2, hlt.1, hlt.2, fun j k n ks hj => ?_⟩); obtain ⟨sl, cp, p0, p1, -⟩ := hr.at j k n ks hj; rw [Nat.zero_add] at p0 p1; exact ⟨p0, p1⟩

set_option maxRecDepth 10000 in
set_option maxHeartbeats 8000000 in
theorem namesIn_list (fs : List Fm) (hl : fs.length ≤ 10) (hs : ∀ f ∈ fs, f.size ≤ 200) (v : Value) (w : World) (hv : FL w v fs) :
    Calls Try.prog 14 #[v] w fun e w' => ∃ x, e = .returned x ∧ TL w' x (nmsF fs) ∧ Below w.heap.size w w' := by
  obtain ⟨ad0, cap0, rfl, h1, h2, h3⟩ := hv; (have HNU : Hid (∀ L, Rising L → (∀ t, t ∈ L ↔ ∃ f ∈ fs, t ∈ nmsT f) → L = nmsF fs) := fun L h1 h2 => rising_ext h1 (nmsF_rising fs) fun t => by rw [nmsF_mem]; exact h2 t); generalize nmsF fs = U at *; (have H3 : Hid (fs ≠ [] → ∃ b off, ad0 = some ⟨b, off, none⟩ ∧ Reps w (fun _ => True) b off fs) := h3); have HS : Hid (∀ f ∈ fs, f.size ≤ 200) := hs; (have hlI : (fs.length : Int) ≤ 10 := by omega); (have hlc0 : (fs.length : Int) ≤ (cap0 : Int) := by omega); obtain ⟨i0, hi, hz0, hz1, hz2⟩ := infoText; have HIo : Hid (Try.prog.info? 9 = some i0 ∧ i0.zero = some (.string ⟨#[]⟩) ∧ i0.size = 1 ∧ i0.bytes = 16) := ⟨hi, hz0, hz1, hz2⟩; have HL0 : Hid (fs.length ≤ 10) := hl; clear h3 hi hz0 hz1 hz2 hs h1 h2 hl
  go_enter Try.func14, Try.ntmps14
  go_wp2_with fail
  go_loopg [4, 3] fs.length (fun g c o wr => ∃ i ad cy L, i ≤ fs.length ∧ g = fs.length - i ∧ c = .int .i64 (i : Nat) ∧ o = .slice ad L.length cy ∧ Below w.heap.size w wr ∧ Hid (KS w.heap.size wr ad cy L) ∧ Hid (L.length ≤ 200 * i) ∧ Hid (Rising L ∧ ∀ t, t ∈ L ↔ ∃ f ∈ fs.take i, t ∈ nmsT f))
  case atStart => exact ⟨0, none, 0, [], by omega, by omega, rfl, rfl, Below.refl _ _, KS.nil, by show _ ≤ _; simp, List.Pairwise.nil, fun t => by simp⟩
  case round =>
    obtain ⟨ii, ad1, cy1, L1, hi1, hg1, rfl, rfl, hbr, HK1, HLn, HL1⟩ := hrel; have HG1 : Hid (gk = fs.length - ii) := hg1; clear hg1; by_cases hlt1 : ii < fs.length
    · obtain ⟨⟨k, n, ks⟩, hfi⟩ : ∃ f, fs[ii]? = some f := ⟨_, List.getElem?_eq_getElem hlt1⟩
      (obtain ⟨b0, off0, rfl, hrs0⟩ := H3.out (fun e => by rw [e] at hlt1; simp at hlt1)); obtain ⟨sl, cap, g0, g1, g2, hrep0⟩ := (hrs0.up hbr).at ii k n ks hfi; have hsz1 := HS.out _ (List.mem_of_getElem? hfi); (have hwk := fun v w h => walk_any (.mk k n ks) v 100000 w (by omega) h); (rw [walk_all _ (by omega)] at hwk); (have hNl : (allN (.mk k n ks)).length ≤ 200 := by rw [allN_len]; exact hsz1)
      have HTk : Hid (∀ L : List (List UInt8), (∀ t, t ∈ L ↔ t ∈ L1 ∨ t ∈ (nmsOf (allN (.mk k n ks))).map (·.data.toList)) → ∀ t, t ∈ L ↔ ∃ f ∈ fs.take (ii + 1), t ∈ nmsT f) := fun L h t => by
        rw [h t, HL1.out.2 t, List.take_add_one, hfi]
        constructor
        · rintro (⟨f, h1, h2⟩ | h1)
          · exact ⟨f, by simp [h1], h2⟩
          · exact ⟨_, by simp, h1⟩
        · rintro ⟨f, h1, h2⟩
          rcases List.mem_append.1 h1 with h1 | h1
          · exact Or.inl ⟨f, h1, h2⟩
          · simp at h1; subst h1; exact Or.inr h2
      have HW : Hid (∀ v w, _ → Calls Try.prog 43 _ w _) := hwk; (have hltI1 : (ii : Int) < (fs.length : Int) := by omega); (have hltc1 : (ii : Int) < (cap0 : Int) := by omega); have HIl : Hid (ii < fs.length ∧ fs.length ≤ 10) := ⟨hlt1, HL0.out⟩; clear hwk hrs0 hfi hsz1 hlt1 hi1; generalize allN (.mk k n ks) = nodes at *
      go_wp2_with (first
        | (go_at_call 43
           refine (HW.out _ _ hrep0).mono ?_; rintro e w1 ⟨x, rfl, hlo, hb1⟩; obtain ⟨g, cp, rfl, hc1, hc2, hgB0, hgl, hrs⟩ := hlo.reps2; have HC : Hid (∀ (j : Nat) (k : Int) (n : ByteArray) (ks : List Fm), nodes[j]? = some (.mk k n ks) → w1.cell? ⟨g, j * 3, none⟩ = some (.int .i64 k) ∧ w1.cell? ⟨g, j * 3 + 1, none⟩ = some (.string n)) := hrs; have HGn : Hid (wr.heap.size ≤ g ∧ g < w1.heap.size) := ⟨hgB0, hgl⟩; have HB1 : Hid (Below w.heap.size w w1) := below_join hbr hb1; have HK2 : Hid (KS w.heap.size w1 ad1 cy1 L1) := HK1.out.up hb1
           have HO2 : Hid ((Value.slice ad1 L1.length cy1).ownBlock ≠ some g) := fun e => by
             have := (World.ownsRow.lt HK1.out g e).2; omega
           clear hlo hrs hgB0 hgl hb1 hbr HK1)
        | fail)
      obtain ⟨hi, hz0, hz1, hz2⟩ := HIo.out; (have hNI : (nodes.length : Int) ≤ 200 := by omega); clear hrep0 g0 g1 g2 HW
      go_loopg [6, 3] nodes.length (fun gg c o wz => ∃ j ad cy L, j ≤ nodes.length ∧ gg = nodes.length - j ∧ c = .int .i64 (j : Nat) ∧ o = .slice ad L.length cy ∧ Hid (Below w.heap.size w wz) ∧ Hid (wz.heap[g]? = w1.heap[g]?) ∧ Hid ((Value.slice ad L.length cy).ownBlock ≠ some g) ∧ Hid (KS w.heap.size wz ad cy L) ∧ Hid (L.length ≤ 200 * ii + j) ∧ Hid (Rising L ∧ ∀ t, t ∈ L ↔ t ∈ L1 ∨ t ∈ (nmsOf (nodes.take j)).map (·.data.toList)))
      case atStart => exact ⟨0, ad1, cy1, L1, by omega, by omega, rfl, rfl, HB1, by show _ = _; rfl, HO2, HK2, by have := HLn.out; show _ ≤ _; omega, HL1.out.1, fun t => by simp [nmsOf]⟩
      case round =>
        obtain ⟨j, ad, cy, L, hj, hg, rfl, rfl, HBy, HGk, HOg, HK, HLj, HL⟩ := hrel; have HG : Hid (gk = nodes.length - j) := hg; clear hg; (have hLj : L.length ≤ 2300 := by have := HLj.out; have := HIl.out; omega); by_cases hlt : j < nodes.length
        · obtain ⟨⟨k2, n2, ks2⟩, hki⟩ : ∃ f, nodes[j]? = some f := ⟨_, List.getElem?_eq_getElem hlt⟩
          obtain ⟨p0', p1'⟩ := HC.out j k2 n2 ks2 hki; have p0 := (cell_of_block (a := ⟨g, j * 3, none⟩) HGk.out).trans p0'; have p1 := (cell_of_block (a := ⟨g, j * 3 + 1, none⟩) HGk.out).trans p1'; clear p0' p1'; (have hltI : (j : Int) < (nodes.length : Int) := by omega); (have hlc : (j : Int) < (cp : Int) := by omega)
          have hT : nmsOf (nodes.take (j + 1)) = nmsOf (nodes.take j) ++ if k2 = 1 then [n2] else [] := by
            rw [List.take_add_one, hki, nmsOf_append]; show _ ++ nmsOf [Fm.mk k2 n2 ks2] = _; rw [nmsOf]; rfl
          by_cases hk : k2 = 1
          · subst hk
            rw [if_pos rfl] at hT; obtain ⟨t, rfl⟩ : ∃ t : List UInt8, n2 = ⟨t.toArray⟩ := ⟨n2.data.toList, rfl⟩; have hha := hasText_any L t _ wr HK.out.list; by_cases hm : t ∈ L
            · rw [decide_eq_true hm] at hha
              have HA : Hid (Calls Try.prog 42 _ wr _) := hha
              have HT : Hid (∀ x, x ∈ L ↔ x ∈ L1 ∨ x ∈ (nmsOf (nodes.take (j + 1))).map (·.data.toList)) := fun x => by
                rw [hT, List.map_append, List.mem_append, HL.out.2 x]
                constructor
                · rintro (h | h)
                  · exact Or.inl h
                  · exact Or.inr (Or.inl h)
                · rintro (h | h | h)
                  · exact Or.inl h
                  · exact Or.inr h
                  · simp at h; subst h; exact (HL.out.2 _).1 hm
              generalize (⟨t.toArray⟩ : ByteArray) = TT at *; clear hT hki hha
              go_wp2_with (first
                | (go_at_call 42
                   refine HA.out.mono ?_
                   rintro e w2 ⟨rfl, rfl⟩)
                | fail)
              go_roundg (nodes.length - (j + 1))
              case measure => have := HG.out; omega
              case rel => exact ⟨j + 1, ad, cy, L, by omega, rfl, by go_num, rfl, HBy, HGk, HOg, HK, by have := HLj.out; show _ ≤ _; omega, HL.out.1, HT.out⟩
            · rw [decide_eq_false hm] at hha
              have HA : Hid (Calls Try.prog 42 _ wr _) := hha; have HM : Hid (t ∉ L) := hm
              have HT : Hid (∀ M : List (List UInt8), (∀ x, x ∈ M ↔ x ∈ L ∨ x = t) → ∀ x, x ∈ M ↔ x ∈ L1 ∨ x ∈ (nmsOf (nodes.take (j + 1))).map (·.data.toList)) := fun M hM x => by
                rw [hT, List.map_append, List.mem_append, hM x, HL.out.2 x]; simp [or_assoc]
              clear hT hki hha hm; have HP : Hid (wr.cell? ⟨g, j * 3 + 1, none⟩ = some (.string ⟨t.toArray⟩)) := p1
              go_wp2_with (first
                | (go_at_call 42
                   refine HA.out.mono ?_; rintro e w2 ⟨rfl, hw2⟩; have hw3 := hw2.symm
                   subst hw3)
                | fail)
              (have hLI : (L.length : Int) ≤ 2300 := by omega); obtain ⟨W0, hW0⟩ : ∃ W0, W0 = wr := ⟨_, rfl⟩; subst hW0
              go_loopg [7] L.length (fun g c wz => ∃ a, a ≤ L.length ∧ g = L.length - a ∧ c = .int .i64 (a : Nat) ∧ Below W0.heap.size W0 wz ∧ Hid (∀ (i : Nat) (x : List UInt8), i < a → L[i]? = some x → x < t))
              case atStart => exact ⟨0, by omega, by omega, rfl, Below.refl _ _, fun i x h => absurd h (Nat.not_lt_zero _)⟩
              case round =>
                obtain ⟨a, ha, hg2, rfl, hbz, HX⟩ := hrel; have HG2 : Hid (gk = L.length - a) := hg2; have pz := (hbz.cell (p := ⟨g, j * 3 + 1, none⟩) (lt_of_cell p1)).trans p1; have HKz : Hid (KS w.heap.size wr ad cy L) := HK.out.up hbz; have HGz : Hid (wr.heap[g]? = w1.heap[g]?) := (hbz.block g (lt_of_cell (a := ⟨g, j * 3 + 1, none⟩) p1)).trans HGk.out; have HBz : Hid (Below w.heap.size w wr) := below_join HBy.out hbz; have HGl : Hid (g < wr.heap.size) := Nat.lt_of_lt_of_le (lt_of_cell (a := ⟨g, j * 3 + 1, none⟩) p1) hbz.size; clear hg2 p0 p1 HP HA; by_cases hal : a < L.length
                · obtain ⟨x, hx⟩ : ∃ x, L[a]? = some x := ⟨_, List.getElem?_eq_getElem hal⟩
                  (have haI : (a : Int) < (L.length : Int) := by omega)
                  rcases HKz.out.ne with ⟨-, h0, -⟩ | ⟨gL, rfl, hgB, hgz, hLc, hcm⟩
                  · rw [h0] at hal; simp at hal
                  have hx0 := HKz.out.cell a x hx; (have hac : (a : Int) < (cy : Int) := by omega); by_cases hxt : x < t
                  · have HXN : Hid (∀ (i : Nat) (y : List UInt8), i < a + 1 → L[i]? = some y → y < t) := fun i y hi hy => by
                      rcases Nat.lt_or_ge i a with h | h
                      · exact HX.out i y h hy
                      · obtain rfl : i = a := by omega
                        rw [hx] at hy; rw [← Option.some.inj hy]; exact hxt
                    (have hbl : Op.bytesLess x t = true := by rw [bytesLess_eq]; exact decide_eq_true hxt); have HBd : Hid (a < L.length) := hal; clear hx hxt hgB hgz hLc hcm hLj ha hal hj hlt; go_wp2_with fail
                    go_quiet (fail)
                    go_wp2_with fail
                    go_roundg (L.length - (a + 1))
                    case measure => have := HG2.out; have := HBd.out; omega
                    case rel => exact ⟨a + 1, HBd.out, rfl, by go_num, below_drewN hbz _, HXN⟩
                  · have hbl : Op.bytesLess x t = false := by rw [bytesLess_eq]; exact decide_eq_false hxt
                    (have HBd : Hid (w.heap.size ≤ gL ∧ gL < wr.heap.size ∧ L.length ≤ cy ∧ cy ≤ maxLen ∧ a < L.length ∧ L.length ≤ 20000) := ⟨hgB, hgz, hLc, hcm, hal, by omega⟩); (have HRi : Hid (Rising (L.take a ++ t :: L.drop a)) := rising_ins HL.out.1 HX.out (fun y hy => by rw [hx] at hy; rw [← Option.some.inj hy]; exact hxt) HM.out); (have hLcI : (L.length : Int) ≤ (cy : Int) := by omega); have HJ : Hid (j < nodes.length ∧ L.length ≤ 200 * ii + j) := ⟨hlt, HLj.out⟩; (have haI2 : (a : Int) ≤ (L.length : Int) := by omega); (have hacn : ¬ cy = a := by omega); (have hacy : a ≤ cy := by omega); (have haL : a ≤ L.length := by omega); clear hx hxt hgB hgz hLc hcm hLj ha hal hj hlt; go_wp2_with fail
                    go_quiet (fail)
                    go_wp2_with fail
                    go_region_law
                      (first
                       | (have hw4 := HW4.out
                          (refine step_append_lies _ rfl _ _ 25 rfl w.heap.size 9 i0 (.string ⟨#[]⟩) 1 16 Try.underlying25 hi hz0 hz1 hz2 rfl (by decide) _ _ _ rfl HO4.out ⟨g4, 0, none⟩ (1 + (L.length - a)) cp4 ((t :: L.drop a).map encStr) rfl (by simp; omega) (fun j u hu => hw4.cells (g := g4) rfl j u hu) (enc_one _) (by omega) (by have := HBd.out; unfold maxLen; omega) (by have := HBd.out; omega) (by have := HBd.out; have := HG4.out.size; simp at this; have := HBz.out.size; omega) _ rfl ?_); intro g5 cp5 w5 hown5 hgrow5 hat5 hlt5; (have HE5 := ins_end HBz.out HBz.out.size HBd.out.1 (by have := HBd.out; simp; omega) HG4.out hgrow5 hown5); have HE : Hid (KS w.heap.size w5 (some ⟨g5, 0, none⟩) cp5 (L.take a ++ t :: L.drop a) ∧ Below w.heap.size w w5) := HE5
                          have HG5 : Hid (w5.heap[g]? = w1.heap[g]?) := by
                            show _ = _; rw [← HGz.out, ← show (wr.drewN (nq + 1)).heap[g]? = wr.heap[g]? from rfl]; have hg1 := HGl.out; (have e4 := HG4.out.block g (by simp; omega) (fun e => by have : g = wr.heap.size := Option.some.inj e; omega)); have h4 := HG4.out.size; simp at h4; (have e5 := hgrow5.block g (by omega) (fun e => HOg.out e.symm)); rw [e5, e4]; exact Below.heap_alloc _ _ _ hg1
                          have HO5 : Hid ((Value.slice (some ⟨g5, 0, none⟩) (L.take a ++ t :: L.drop a).length cp5).ownBlock ≠ some g) := fun e => by
                            (have e' : g5 = g := by simpa [Value.ownBlock] using e); subst e'; have hg1 := HGl.out; have h4 := HG4.out.size; simp at h4
                            rcases hat5 with h | h
                            · exact HOg.out h
                            · omega
                          clear HE5 hown5 hgrow5 hat5 hw4)
                       | (have hin : ((wr.drewN (nq + 1)).alloc (.cells #[.string ⟨t.toArray⟩] 9 (0, 0))).ownsRow wr.heap.size 9 1 (.slice (some ⟨wr.heap.size, 0, none⟩) 1 1) 1 [.string ⟨t.toArray⟩] := ⟨rfl, Or.inr ⟨wr.heap.size, 1, #[.string ⟨t.toArray⟩], rfl, Nat.le_refl _, blk_new _ _, by omega, by simp [maxLen], rfl, rfl⟩⟩
                          have hks : KS w.heap.size ((wr.drewN (nq + 1)).alloc (.cells #[.string ⟨t.toArray⟩] 9 (0, 0))) (some ⟨gL, 0, none⟩) cy L := HKz.out.up ((below_drewN (Below.refl _ wr) _).alloc (Nat.le_refl _) _); (refine step_append_lies _ rfl _ _ 25 rfl wr.heap.size 9 i0 (.string ⟨#[]⟩) 1 16 Try.underlying25 hi hz0 hz1 hz2 rfl (by decide) _ _ _ rfl hin ⟨gL, a, none⟩ (L.length - a) (cy - a) ((L.drop a).map encStr) rfl (by simp) (hks.drop a) (enc_one _) (by have := HBd.out; omega) (by have := HBd.out; unfold maxLen; omega) (by have := HBd.out; omega) (by simp) _ rfl ?_); intro g4 cp4 w4 hown4 hgrow4 hat4 hlt4; have HW4 : Hid (w4.ownsRow wr.heap.size 9 1 (.slice (some ⟨g4, 0, none⟩) (1 + (L.length - a)) cp4) (1 + (L.length - a)) ((t :: L.drop a).map encStr)) := hown4; have HG4 : Hid (((wr.drewN (nq + 1)).alloc (.cells #[.string ⟨t.toArray⟩] 9 (0, 0))).grownBy w4 (some wr.heap.size)) := hgrow4; (have HO4 : Hid (w4.ownsRow w.heap.size 9 1 (.slice (some ⟨gL, 0, none⟩) a cy) a ((L.take a).map encStr)) := (hks.keep (HG4.out.block gL (by have := HBd.out; simp; omega) (fun e => by have : gL = wr.heap.size := Option.some.inj e; have := HBd.out; omega))).take a (by have := HBd.out; omega))
                          clear hown4 hgrow4 hat4 hin hks)
                       | fail)
                    all_goals
                      go_wp2_with fail; (have hl2 : (L.take a ++ t :: L.drop a).length = L.length + 1 := by have := HBd.out; simp; omega)
                      go_roundg (nodes.length - (j + 1))
                      case measure => have := HG.out; have := HJ.out; omega
                      case rel => exact ⟨j + 1, some ⟨g5, 0, none⟩, cp5, L.take a ++ t :: L.drop a, by have := HJ.out; omega, rfl, by go_num, by rw [hl2, show a + (1 + (L.length - a)) = L.length + 1 by have := HBd.out; omega], HE.out.2, HG5, HO5, HE.out.1, by have := HJ.out; show _ ≤ _; rw [hl2]; omega, HRi.out, HT.out _ (mem_ins L t a)⟩
                · obtain rfl : a = L.length := by omega
                  (have hal' : decide ((L.length : Int) < (L.length : Int)) = false := by simp)
                  have HRi : Hid (Rising (L ++ [t])) := by
                    (have := rising_ins HL.out.1 HX.out (fun y hy => by rw [List.getElem?_eq_none (Nat.le_refl _)] at hy; cases hy) HM.out)
                    rwa [List.take_length, List.drop_length] at this
                  (have HMI : Hid (∀ x, x ∈ L ++ [t] ↔ x ∈ L ∨ x = t) := fun x => by simp); (have HJ : Hid (j < nodes.length ∧ L.length ≤ 200 * ii + j ∧ L.length ≤ 20000) := ⟨hlt, HLj.out, by omega⟩)
                  rcases HKz.out.ne with ⟨rfl, rfl, rfl⟩ | ⟨gL, rfl, hgB, hgz, hLc, hcm⟩
                  · clear hLj ha hal hj hlt
                    go_wp2_with fail
                    go_quiet (fail)
                    go_wp2_with fail
                    go_region_law
                      (first
                       | (refine step_append_lies _ rfl _ _ 25 rfl w.heap.size 9 i0 (.string ⟨#[]⟩) 1 16 Try.underlying25 hi hz0 hz1 hz2 rfl (by decide) _ _ _ rfl (show World.ownsRow ((wr.drewN (nq + 1)).alloc (.cells #[.string ⟨t.toArray⟩] 9 (0, 0))) w.heap.size 9 1 (.slice none 0 0) 0 [] from ⟨rfl, Or.inl ⟨rfl, rfl⟩⟩) ⟨wr.heap.size, 0, none⟩ 1 1 [.string ⟨t.toArray⟩] rfl rfl ?_ ?_ (by omega) (by unfold maxLen; omega) (by omega) (by have := HBz.out.size; simp; omega) _ rfl ?_
                          · intro i u hu
                            rw [add_none, Nat.zero_add, show wr.heap.size = (wr.drewN (nq + 1)).heap.size from rfl, blk_cell (blk_new (wr.drewN (nq + 1)) _)]; simpa using hu
                          · intro u hu
                            simp at hu
                            rcases hu with rfl; rfl
                          intro g5 cp5 w5 hown5 hgrow5 hat5 hlt5; have HE5 := app_end (t := t) HBz.out HBz.out.size HKz.out hgrow5 hown5; have HE : Hid (KS w.heap.size w5 (some ⟨g5, 0, none⟩) cp5 (([] : List (List UInt8)) ++ [t]) ∧ Below w.heap.size w w5) := HE5
                          have HG5 : Hid (w5.heap[g]? = w1.heap[g]?) := by
                            show _ = _; have hg1 := HGl.out; (have e5 := hgrow5.block g (by simp; omega) (fun e => HOg.out e.symm)); rw [e5, ← HGz.out]; exact Below.heap_alloc _ _ _ hg1
                          have HO5 : Hid ((Value.slice (some ⟨g5, 0, none⟩) (([] : List (List UInt8)) ++ [t]).length cp5).ownBlock ≠ some g) := fun e => by
                            (have e' : g5 = g := by simpa [Value.ownBlock] using e); subst e'; have hg1 := HGl.out
                            rcases hat5 with h | h
                            · exact HOg.out h
                            · simp at h; omega
                          clear HE5 hown5 hgrow5 hat5)
                       | fail)
                    all_goals
                      go_wp2_with fail
                      go_roundg (nodes.length - (j + 1))
                      case measure => have := HG.out; have := HJ.out; omega
                      case rel => exact ⟨j + 1, some ⟨g5, 0, none⟩, cp5, ([] : List (List UInt8)) ++ [t], by have := HJ.out; omega, rfl, by go_num, by simp, HE.out.2, HG5, HO5, HE.out.1, by show _ ≤ _; simp; omega, HRi.out, HT.out _ HMI.out⟩
                  · have hLcI : (L.length : Int) ≤ (cy : Int) := by omega
                    have HBd : Hid (w.heap.size ≤ gL ∧ gL < wr.heap.size ∧ L.length ≤ cy ∧ cy ≤ maxLen) := ⟨hgB, hgz, hLc, hcm⟩; clear hLj ha hal hj hlt hgB hgz hcm; by_cases hcl : L.length = cy
                    · subst hcl
                      clear hLc; go_wp2_with fail
                      go_quiet (fail)
                      go_wp2_with fail
                      go_region_law
                        (first
                         | (refine step_append_lies _ rfl _ _ 25 rfl w.heap.size 9 i0 (.string ⟨#[]⟩) 1 16 Try.underlying25 hi hz0 hz1 hz2 rfl (by decide) _ _ _ rfl (HKz.out.up ((below_drewN (Below.refl _ wr) (nq + 1)).alloc (Nat.le_refl _) (.cells #[.string ⟨t.toArray⟩] 9 (0, 0)))) ⟨wr.heap.size, 0, none⟩ 1 1 [.string ⟨t.toArray⟩] rfl rfl ?_ ?_ (by omega) (by have := HJ.out; unfold maxLen; simp at this ⊢; omega) (by have := HJ.out; simp at this ⊢; omega) (by have := HBz.out.size; simp; omega) _ rfl ?_
                            · intro i u hu
                              rw [add_none, Nat.zero_add, show wr.heap.size = (wr.drewN (nq + 1)).heap.size from rfl, blk_cell (blk_new (wr.drewN (nq + 1)) _)]; simpa using hu
                            · intro u hu
                              simp at hu
                              rcases hu with rfl; rfl
                            intro g5 cp5 w5 hown5 hgrow5 hat5 hlt5; have HE5 := app_end (t := t) HBz.out HBz.out.size HKz.out hgrow5 hown5; have HE : Hid (KS w.heap.size w5 (some ⟨g5, 0, none⟩) cp5 (L ++ [t]) ∧ Below w.heap.size w w5) := HE5
                            have HG5 : Hid (w5.heap[g]? = w1.heap[g]?) := by
                              show _ = _; have hg1 := HGl.out; (have e5 := hgrow5.block g (by simp; omega) (fun e => HOg.out e.symm)); rw [e5, ← HGz.out]; exact Below.heap_alloc _ _ _ hg1
                            have HO5 : Hid ((Value.slice (some ⟨g5, 0, none⟩) (L ++ [t]).length cp5).ownBlock ≠ some g) := fun e => by
                              (have e' : g5 = g := by simpa [Value.ownBlock] using e); subst e'; have hg1 := HGl.out
                              rcases hat5 with h | h
                              · exact HOg.out h
                              · simp at h; omega
                            clear HE5 hown5 hgrow5 hat5)
                         | (refine step_append_zero rfl _ _ 25 rfl 9 i0 Try.underlying25 hi wr.heap.size 0 1 1 rfl (by omega) _ _ rfl ?_)
                         | fail)
                      all_goals
                        clear hal' hLcI; go_wp2_with fail
                        go_roundg (nodes.length - (j + 1))
                        case measure => have := HG.out; have := HJ.out; omega
                        case rel => exact ⟨j + 1, some ⟨g5, 0, none⟩, cp5, L ++ [t], by have := HJ.out; omega, rfl, by go_num, by simp, HE.out.2, HG5, HO5, HE.out.1, by have := HJ.out; show _ ≤ _; simp at this ⊢; omega, HRi.out, HT.out _ HMI.out⟩
                    · have hacn : ¬ cy = L.length := fun e => hcl e.symm
                      go_wp2_with fail
                      go_quiet (fail)
                      go_wp2_with fail
                      go_region_law
                        (first
                         | (refine step_append_lies _ rfl _ _ 25 rfl w.heap.size 9 i0 (.string ⟨#[]⟩) 1 16 Try.underlying25 hi hz0 hz1 hz2 rfl (by decide) _ _ _ rfl (HKz.out.up ((below_drewN (Below.refl _ wr) (nq + 1)).alloc (Nat.le_refl _) (.cells #[.string ⟨t.toArray⟩] 9 (0, 0)))) ⟨wr.heap.size, 0, none⟩ 1 1 [.string ⟨t.toArray⟩] rfl rfl ?_ ?_ (by omega) (by have := HJ.out; unfold maxLen; simp at this ⊢; omega) (by have := HJ.out; simp at this ⊢; omega) (by have := HBz.out.size; simp; omega) _ rfl ?_
                            · intro i u hu
                              rw [add_none, Nat.zero_add, show wr.heap.size = (wr.drewN (nq + 1)).heap.size from rfl, blk_cell (blk_new (wr.drewN (nq + 1)) _)]; simpa using hu
                            · intro u hu
                              simp at hu
                              rcases hu with rfl; rfl
                            intro g5 cp5 w5 hown5 hgrow5 hat5 hlt5; have HE5 := app_end (t := t) HBz.out HBz.out.size HKz.out hgrow5 hown5; have HE : Hid (KS w.heap.size w5 (some ⟨g5, 0, none⟩) cp5 (L ++ [t]) ∧ Below w.heap.size w w5) := HE5
                            have HG5 : Hid (w5.heap[g]? = w1.heap[g]?) := by
                              show _ = _; have hg1 := HGl.out; (have e5 := hgrow5.block g (by simp; omega) (fun e => HOg.out e.symm)); rw [e5, ← HGz.out]; exact Below.heap_alloc _ _ _ hg1
                            have HO5 : Hid ((Value.slice (some ⟨g5, 0, none⟩) (L ++ [t]).length cp5).ownBlock ≠ some g) := fun e => by
                              (have e' : g5 = g := by simpa [Value.ownBlock] using e); subst e'; have hg1 := HGl.out
                              rcases hat5 with h | h
                              · exact HOg.out h
                              · simp at h; omega
                            clear HE5 hown5 hgrow5 hat5)
                         | (refine step_append_zero rfl _ _ 25 rfl 9 i0 Try.underlying25 hi wr.heap.size 0 1 1 rfl (by omega) _ _ rfl ?_)
                         | fail)
                      all_goals
                        clear hal' hLcI; go_wp2_with fail
                        go_roundg (nodes.length - (j + 1))
                        case measure => have := HG.out; have := HJ.out; omega
                        case rel => exact ⟨j + 1, some ⟨g5, 0, none⟩, cp5, L ++ [t], by have := HJ.out; omega, rfl, by go_num, by simp, HE.out.2, HG5, HO5, HE.out.1, by have := HJ.out; show _ ≤ _; simp at this ⊢; omega, HRi.out, HT.out _ HMI.out⟩
          · rw [if_neg hk, List.append_nil] at hT
            have HT : Hid (nmsOf (nodes.take (j + 1)) = nmsOf (nodes.take j)) := hT; (have hkJ : (k2 != 1) = true := by simpa using hk); clear hT hki; go_wp2_with fail
            go_roundg (nodes.length - (j + 1))
            case measure => have := HG.out; omega
            case rel => exact ⟨j + 1, ad, cy, L, by omega, rfl, by go_num, rfl, HBy, HGk, HOg, HK, by have := HLj.out; show _ ≤ _; omega, HL.out.1, by rw [HT.out]; exact HL.out.2⟩
        · have HE : Hid (∀ t, t ∈ L ↔ ∃ f ∈ fs.take (ii + 1), t ∈ nmsT f) := HTk.out L (by have := HL.out.2; rwa [List.take_of_length_le (by omega)] at this)
          (have HLe : Hid (L.length ≤ 200 * (ii + 1)) := by have := HLj.out; show _ ≤ _; omega); have HRl : Hid (Rising L) := HL.out.1; (have hge : ¬ (j : Int) < (nodes.length : Int) := by omega); clear hLj; go_wp2_with fail
          go_roundg (fs.length - (ii + 1))
          case measure => have := HG1.out; have := HIl.out; omega
          case rel => exact ⟨ii + 1, ad, cy, L, HIl.out.1, rfl, by go_num, rfl, HBy.out, HK, HLe, HRl.out, HE.out⟩
    · have HE : Hid (L1 = U) := HNU.out L1 HL1.out.1 (by have := HL1.out.2; rwa [List.take_of_length_le (by omega)] at this)
      (have hge : ¬ (ii : Int) < (fs.length : Int) := by omega); clear hi1 hlt1; go_wp2_with fail; go_ret; (exact ⟨_, rfl, by rw [← HE.out]; exact HK1.out.list, hbr⟩)
end Go.Proofs.Ytffkoiemnchdgaf
