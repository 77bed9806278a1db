/- Texts of one proof, one behind the other: PartsIn1, Math13. -/
import Derived.Test.YtknngeojhiejnaaB15
/- Walks: the parts of a formula, as the yardstick tells them. -/
namespace Go.Proofs.Ytknngeojhiejnaa
open Go.RowKit

theorem KP.list {P : Nat → Prop} {B : Nat} {w : World} {ad : Option Addr} {cap : Nat} {fs : List Fm} (h : KP P B w ad cap fs) (hPB : ∀ b, B ≤ b → P b) : FL w (.slice ad fs.length cap) fs :=
  (h.rep hPB 0 e0 (by decide)).all.kids

theorem LR.repsA {A : Nat} {w : World} {b : Nat} : ∀ {cs : List Value} {fs : List Fm} (off : Nat), LR A w cs fs → (∀ (j : Nat) (u : Value), cs[j]? = some u → w.cell? ⟨b, off + j, none⟩ = some u) → Reps w (· < A) b off fs
  | [], [], _, _, _ => Reps.nil
  | c0 :: c1 :: c2 :: cs, f :: fs, off, h, hc => Reps.cons.2 ⟨⟨c0, c1, c2, hc 0 c0 rfl, hc 1 c1 rfl, hc 2 c2 rfl, h.1⟩, LR.repsA (off + 3) h.2 fun j u hu => by
      have := hc (j + 3) u (by simpa using hu)
      rwa [show off + (j + 3) = off + 3 + j by omega] at this⟩

theorem walk_all (f : Fm) (h : f.size ≤ 200) : walkL f 100000 = allN f := by
  rw [walkL_take, List.take_of_length_le (by rw [allN_len]; omega)]

set_option maxHeartbeats 4000000 in
theorem partsIn_any (f : Fm) (hs : f.size ≤ 200) (v : Value) (w : World) (hv : FL w v [f]) :
    Calls Try.prog 26 #[v] w fun e w' => ∃ x, e = .returned x ∧ FL w' x (partsL [] (allN f)) ∧ Below w.heap.size w w' := by
  obtain ⟨ad0, cap0, rfl, h1, h2, h3⟩ := hv
  obtain ⟨b0, off0, rfl, hrs0⟩ := h3 (by simp)
  have hwk := fun v w h => walk_any f v 100000 w (by omega) h
  rw [walk_all f hs] at hwk
  have hNl : (allN f).length ≤ 200 := by rw [allN_len]; exact hs
  obtain ⟨k, n, ks⟩ := f
  obtain ⟨sl, cap, g0, g1, g2, hrep0⟩ := hrs0.at 0 k n ks rfl
  simp only [Nat.zero_mul, Nat.add_zero] at g0 g1 g2
  have HW : Hid (∀ v w, _ → Calls Try.prog 30 _ w _) := hwk
  have hl1 : (1 : Int) ≤ (cap0 : Int) := by simp at h1; omega
  obtain ⟨i0, hi, hz0, hz1, hz2⟩ := infoFormula
  have HIo : Hid (Try.prog.info? 24 = some i0 ∧ i0.zero = some (.agg #[.int .i64 0, .string ⟨#[]⟩, .slice none 0 0]) ∧ i0.size = 3 ∧ i0.bytes = 48) := ⟨hi, hz0, hz1, hz2⟩
  clear hwk h3 hrs0 hi hz0 hz1 hz2 hs
  generalize allN (.mk k n ks) = nodes at *
  go_enter Try.func26, Try.ntmps26
  go_wp2_with fail
  go_loopg [4, 3] 1 (fun g c o wr => (g = 1 ∧ c = .int .i64 0 ∧ o = .slice none 0 0 ∧ wr = w) ∨ (g = 0 ∧ c = .int .i64 1 ∧ FL wr o (partsL [] nodes) ∧ Below w.heap.size w wr))
  case atStart => exact Or.inl ⟨rfl, rfl, rfl, rfl⟩
  case round =>
    rcases hrel with ⟨rfl, rfl, rfl, hw⟩ | ⟨rfl, rfl, hfl, hbr⟩
    · have hw' := hw.symm
      subst hw'
      go_wp2_with (first
        | (go_at_call 30
           refine (HW.out _ _ hrep0).mono ?_
           rintro e w1 ⟨x, rfl, hlo, hb1⟩
           obtain ⟨g, cp, rfl, hc1, hc2, hrs⟩ := hlo.reps
           have HL : Hid (LO w.heap.size w.heap.size w1 (.slice (some ⟨g, 0, none⟩) nodes.length cp) nodes) := hlo
           have HS : Hid (Reps w1 (fun _ => True) g 0 nodes) := hrs
           have z1 := hb1.size
           clear hlo hrs)
        | fail)
      obtain ⟨hi, hz0, hz1, hz2⟩ := HIo.out
      have hNI : (nodes.length : Int) ≤ 200 := by omega
      clear hrep0 g0 g1 g2 HW
      go_loopg [6, 3] nodes.length (fun g c o wz => ∃ j ad cy, j ≤ nodes.length ∧ g = nodes.length - j ∧ c = .int .i64 (j : Nat) ∧ o = .slice ad (partsL [] (nodes.take j)).length cy ∧ Below w1.heap.size w1 wz ∧ Hid (KP (fun b => b < w.heap.size ∨ w1.heap.size ≤ b) w1.heap.size wz ad cy (partsL [] (nodes.take j))))
      case atStart => exact ⟨0, none, 0, by omega, by omega, rfl, rfl, Below.refl _ _, KP.nil⟩
      case round =>
        obtain ⟨j, ad, cy, hj, hg, rfl, rfl, hby, HK⟩ := hrel
        have HG : Hid (gk = nodes.length - j) := hg
        clear hg
        have zy := hby.size
        by_cases hlt : j < nodes.length
        · obtain ⟨⟨k2, n2, ks2⟩, hki⟩ : ∃ f, nodes[j]? = some f := ⟨_, List.getElem?_eq_getElem hlt⟩
          obtain ⟨sl2, cap2, p0, p1, p2, hrep2⟩ := (HS.out.up hby).at j k2 n2 ks2 hki
          rw [Nat.zero_add] at p0 p1 p2
          have hltI : (j : Int) < (nodes.length : Int) := by omega
          have hlc : (j : Int) < (cp : Int) := by omega
          have hT : partsL [] (nodes.take (j + 1)) = if hasF (.mk k2 n2 ks2) (partsL [] (nodes.take j)) = true then partsL [] (nodes.take j) else partsL [] (nodes.take j) ++ [.mk k2 n2 ks2] := by
            rw [List.take_add_one, hki, partsL_append]
            show partsL (partsL [] (nodes.take j)) [Fm.mk k2 n2 ks2] = _
            rw [partsL, partsL]
          have hLn : (partsL [] (nodes.take j)).length ≤ 200 := by
            have := partsL_len (nodes.take j) []
            simp only [List.length_nil, Nat.zero_add, List.length_take] at this
            omega
          have hrepA : Rep wr (fun b => b < w.heap.size) (.mk k2 n2 ks2) (.agg #[.int .i64 k2, .string n2, .slice sl2 ks2.length cap2]) := by
            obtain ⟨g', cp', cs, hv, hown, hlr⟩ := HL.out
            simp only [Value.slice.injEq, Option.some.injEq, Addr.mk.injEq, and_true, true_and] at hv
            obtain ⟨rfl, rfl⟩ := hv
            have hr := LR.repsA (b := g) 0 hlr fun j u hu => by
              have := hown.cells (g := g) rfl j u hu
              rw [add_none] at this
              exact this
            obtain ⟨sl', cap', q0, q1, q2, hr2⟩ := hr.at j k2 n2 ks2 hki
            rw [Nat.zero_add] at q2
            have e := (hby.cell (p := ⟨g, j * 3 + 2, none⟩) (lt_of_cell q2)).trans q2
            rw [p2] at e
            simp only [Option.some.injEq, Value.slice.injEq, true_and] at e
            obtain ⟨rfl, rfl⟩ := e
            exact hr2.low (hby.mono (by omega))
          have hha := has_any (partsL [] (nodes.take j)) (.mk k2 n2 ks2) _ _ wr (HK.out.list (fun b hb => Or.inr hb)) hrep2
          generalize hfs : partsL [] (nodes.take j) = fs at *
          clear hfs
          have HRA : Hid (Rep wr (fun b => b < w.heap.size) (.mk k2 n2 ks2) (.agg #[.int .i64 k2, .string n2, .slice sl2 ks2.length cap2])) := hrepA
          rcases hh : hasF (.mk k2 n2 ks2) fs with _ | _
          · rw [hh] at hha hT
            have HT : Hid (partsL [] (nodes.take (j + 1)) = fs ++ [.mk k2 n2 ks2]) := hT
            have HA : Hid (Calls Try.prog 64 _ wr _) := hha
            have zg := lt_of_cell p0
            simp only at zg
            clear hki hha hT hh hrep2 hrepA
            go_wp2_with (first
              | (go_at_call 64
                 refine HA.out.mono ?_
                 rintro e w2 ⟨rfl, hb2⟩
                 have c0 := (hb2.cell (p := ⟨g, j * 3, none⟩) zg).trans p0
                 have c1 := (hb2.cell (p := ⟨g, j * 3 + 1, none⟩) zg).trans p1
                 have c2 := (hb2.cell (p := ⟨g, j * 3 + 2, none⟩) zg).trans p2
                 have z2 := hb2.size)
              | (at_builtin
                 have hownA := (HK.out.up hb2).up ((Below.refl _ w2).alloc (Nat.le_refl _) (.cells #[.int .i64 k2, .string n2, .slice sl2 ks2.length cap2] 24 (0, 0)))
                 obtain ⟨cs, hown, hlq⟩ := hownA
                 refine wpList_append_lies _ rfl _ _ 22 rfl w1.heap.size 24 i0 (.agg #[.int .i64 0, .string ⟨#[]⟩, .slice none 0 0]) 3 48 Try.underlying22 hi hz0 hz1 hz2 rfl (by decide) _ _ _ rfl hown ⟨w2.heap.size, 0, none⟩ 1 1 [.int .i64 k2, .string n2, .slice sl2 ks2.length cap2] rfl rfl ?_ ?_ (by omega) (by unfold maxLen; omega) (by omega) (by simp; omega) _ rfl ?_
                 · intro j u hu
                   rw [add_none, Nat.zero_add, blk_cell (blk_new w2 _)]
                   simpa using hu
                 · intro u hu
                   simp at hu
                   rcases hu with rfl | rfl | rfl <;> rfl
                 intro g3 cp3 w3 hown3 hgrow hat hlt3
                 have hgrow' : (w2.alloc (.cells #[.int .i64 k2, .string n2, .slice sl2 ks2.length cap2] 24 (0, 0))).grownBy w3 (Value.slice ad fs.length cy).ownBlock := hgrow
                 have hat' : (Value.slice ad fs.length cy).ownBlock = some g3 ∨ g3 = (w2.alloc (.cells #[.int .i64 k2, .string n2, .slice sl2 ks2.length cap2] 24 (0, 0))).heap.size := hat
                 clear hgrow hat
                 obtain ⟨hbB, hko⟩ := KP.app rfl (by omega) hown hlq ((HRA.out.up' hb2).move fun b _ hb => ⟨rfl, Or.inl hb, fun e => by have := (hown.lt b e).1; have : b < w.heap.size := hb; omega⟩) hown3 hgrow' hat'
                 have HKO : Hid (KP (fun b => b < w.heap.size ∨ w1.heap.size ≤ b) w1.heap.size w3 (some ⟨g3, 0, none⟩) cp3 (fs ++ [.mk k2 n2 ks2])) := hko
                 clear hgrow' hat' hown3 hown hlq hko)
              | fail)
            go_roundg (nodes.length - (j + 1))
            case measure => have := HG.out; omega
            case rel =>
              refine ⟨j + 1, some ⟨g3, 0, none⟩, cp3, by omega, rfl, by go_num, ?_, (hby.trans (hb2.mono zy)).trans hbB, ?_⟩
              · rw [HT.out, List.length_append]; rfl
              · show KP _ _ _ _ _ _
                rw [HT.out]
                exact HKO.out
          · rw [hh] at hha hT
            have HT : Hid (partsL [] (nodes.take (j + 1)) = fs) := hT
            have HA : Hid (Calls Try.prog 64 _ wr _) := hha
            clear hki hha hT hh hrep2 hrepA
            go_wp2_with (first
              | (go_at_call 64
                 refine HA.out.mono ?_
                 rintro e w2 ⟨rfl, hb2⟩)
              | fail)
            go_roundg (nodes.length - (j + 1))
            case measure => have := HG.out; omega
            case rel =>
              refine ⟨j + 1, ad, cy, by omega, rfl, by go_num, by rw [HT.out], hby.trans (hb2.mono zy), ?_⟩
              show KP _ _ _ _ _ _
              rw [HT.out]
              exact HK.out.up hb2
        · have HKE : Hid (KP (fun b => b < w.heap.size ∨ w1.heap.size ≤ b) w1.heap.size wr ad cy (partsL [] nodes)) := by
            have := HK.out
            rw [List.take_of_length_le (by omega)] at this
            exact this
          have hTE : partsL [] (nodes.take j) = partsL [] nodes := by rw [List.take_of_length_le (by omega)]
          have hge : ¬ (j : Int) < (nodes.length : Int) := by omega
          clear HK
          rw [hTE]
          go_wp2_with fail
          go_roundg 0
          case measure => omega
          case rel => exact Or.inr ⟨rfl, rfl, HKE.out.list (fun b hb => Or.inr hb), below_join hb1 (hby.mono (Nat.le_refl _))⟩
    · have HF : Hid (FL wr _ (partsL [] nodes)) := hfl
      obtain ⟨ad, cp, rfl, -⟩ := hfl
      go_wp2_with fail
      go_ret
      exact ⟨_, rfl, HF.out, hbr⟩
end Go.Proofs.Ytknngeojhiejnaa
/- Names, rising, each once: such a list is told by what is in it. -/
namespace Go.Proofs.Ytknngeojhiejnaa
open Go.Sort

abbrev Rising (l : List (List UInt8)) : Prop := l.Pairwise (· < ·)

theorem lt_irr (a : List UInt8) : ¬ a < a := List.lt_irrefl a
theorem lt_asy {a b : List UInt8} (h : a < b) : ¬ b < a := fun k => lt_irr a (List.lt_trans h k)
theorem lt_tot (a b : List UInt8) : a < b ∨ a = b ∨ b < a := by
  rcases Classical.em (a < b) with h | h
  · exact Or.inl h
  · rcases Classical.em (b < a) with k | k
    · exact Or.inr (Or.inr k)
    · exact Or.inr (Or.inl (List.le_antisymm (List.not_lt.1 k) (List.not_lt.1 h)))

theorem rising_ext : ∀ {l m : List (List UInt8)}, Rising l → Rising m → (∀ t, t ∈ l ↔ t ∈ m) → l = m
  | [], [], _, _, _ => rfl
  | [], b :: m, _, _, h => absurd ((h b).2 (List.mem_cons_self ..)) (by simp)
  | a :: l, [], _, _, h => absurd ((h a).1 (List.mem_cons_self ..)) (by simp)
  | a :: l, b :: m, hl, hm, h => by
    obtain ⟨hl1, hl2⟩ := List.pairwise_cons.1 hl
    obtain ⟨hm1, hm2⟩ := List.pairwise_cons.1 hm
    have hab : a = b := by
      rcases List.mem_cons.1 ((h a).1 (List.mem_cons_self ..)) with e | e
      · exact e
      · rcases List.mem_cons.1 ((h b).2 (List.mem_cons_self ..)) with k | k
        · exact k.symm
        · exact absurd (hl1 b k) (lt_asy (hm1 a e))
    subst hab
    congr 1
    refine rising_ext hl2 hm2 fun t => ⟨fun ht => ?_, fun ht => ?_⟩
    · rcases List.mem_cons.1 ((h t).1 (List.mem_cons_of_mem _ ht)) with e | e
      · subst e; exact absurd (hl1 t ht) (lt_irr t)
      · exact e
    · rcases List.mem_cons.1 ((h t).2 (List.mem_cons_of_mem _ ht)) with e | e
      · subst e; exact absurd (hm1 t ht) (lt_irr t)
      · exact e

theorem nmsU_rising (f : Fm) : Rising (nmsU f) := by
  unfold nmsU
  have hs : (srt (nmsT f)).Pairwise (fun a b => decide (a ≤ b) = true) :=
    List.pairwise_mergeSort (fun a b c h1 h2 => by
      simp only [decide_eq_true_eq] at *
      exact List.le_trans h1 h2) (fun a b => by
      simp only [Bool.or_eq_true, decide_eq_true_eq]
      exact List.le_total a b) _
  generalize srt (nmsT f) = zs at *
  have hle : ∀ i j, i ≤ j → j < zs.length → zs.toArray[i]! ≤ zs.toArray[j]! := by
    intro i j hij hj
    rw [getElem!_pos _ i (by simp; omega), getElem!_pos _ j (by simpa using hj)]
    simp only [List.getElem_toArray]
    rcases Nat.lt_or_ge i j with h | h
    · have := List.pairwise_iff_getElem.1 hs i j (by omega) hj h
      simpa using this
    · obtain rfl : i = j := by omega
      exact List.le_refl _
  unfold Lib.compact Lib.compactUpTo
  rw [Rising, List.pairwise_map]
  refine List.Pairwise.imp_of_mem ?_ ((List.pairwise_lt_range (n := zs.length)).filter _)
  intro i j hi hj hij
  have hj1 := List.mem_range.1 (List.mem_filter.1 hj).1
  have hk : zs.toArray[j]! ≠ zs.toArray[j - 1]! := by
    have := (List.mem_filter.1 hj).2
    simp only [Lib.keeps, decide_eq_true_eq] at this
    rcases this with h | h
    · omega
    · exact h
  have h1 := hle i (j - 1) (by omega) (by omega)
  have h2 := hle (j - 1) j (by omega) hj1
  rcases lt_tot zs.toArray[i]! zs.toArray[j]! with h | h | h
  · exact h
  · rw [h] at h1
    exact absurd (List.le_antisymm h1 h2) hk
  · exact absurd (hle i j (by omega) hj1) (List.not_le.2 h)

/-- A name at its place. -/
theorem rising_ins {l : List (List UInt8)} {t : List UInt8} {a : Nat} (hl : Rising l) (h1 : ∀ (j : Nat) (x : List UInt8), j < a → l[j]? = some x → x < t) (h2 : ∀ x, l[a]? = some x → ¬ x < t) (hn : t ∉ l) : Rising (l.take a ++ t :: l.drop a) := by
  have hd : ∀ x ∈ l.drop a, t < x := by
    intro x hx
    obtain ⟨j, hj, rfl⟩ := List.getElem_of_mem hx
    rw [List.length_drop] at hj
    rw [List.getElem_drop]
    have hge : ¬ l[a]'(by omega) < t := h2 _ (List.getElem?_eq_getElem (by omega))
    have hta : t < l[a]'(by omega) := by
      rcases lt_tot t (l[a]'(by omega)) with h | h | h
      · exact h
      · exact absurd (h ▸ List.getElem_mem (by omega)) hn
      · exact absurd h hge
    rcases Nat.eq_zero_or_pos j with e | e
    · subst e; simpa using hta
    · exact List.lt_trans hta (List.pairwise_iff_getElem.1 hl a (a + j) (by omega) (by omega) (by omega))
  rw [Rising, List.pairwise_append]
  refine ⟨hl.sublist (List.take_sublist _ _), List.pairwise_cons.2 ⟨hd, hl.sublist (List.drop_sublist _ _)⟩, ?_⟩
  intro x hx y hy
  obtain ⟨j, hj, rfl⟩ := List.getElem_of_mem hx
  rw [List.length_take] at hj
  have hxt : (l.take a)[j]'(by rw [List.length_take]; exact hj) < t := h1 j _ (by omega) (by rw [List.getElem_take]; exact List.getElem?_eq_getElem (by omega))
  rcases List.mem_cons.1 hy with e | e
  · subst e; exact hxt
  · exact List.lt_trans hxt (hd y e)
end Go.Proofs.Ytknngeojhiejnaa
