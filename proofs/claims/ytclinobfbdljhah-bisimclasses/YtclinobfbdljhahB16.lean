/- Texts of one proof, one behind the other: Names1, Names2, Swaps1, Math13. -/
import Derived.Test.YtclinobfbdljhahB13
import Derived.Test.YtclinobfbdljhahB11
import Derived.Test.YtclinobfbdljhahB12
import Derived.Deep.RegionLaw
import Derived.Test.YtclinobfbdljhahB03
import Derived.Sort.OwnSorted
import Derived.Deep.DeepCutAuto
import Derived.Test.YtclinobfbdljhahB09
import Derived.Test.YtclinobfbdljhahB01
/- Walks: the names in a formula, as they come. -/
namespace Go.Proofs.Ytclinobfbdljhah
open Go.RowKit

theorem infoText : ∃ i, Try.prog.info? 9 = some i ∧ i.zero = some (.string ⟨#[]⟩) ∧ i.size = 1 ∧ i.bytes = 16 := by
  (obtain ⟨i, hi, h⟩ := Option.map_eq_some_iff.1 (show (Try.prog.info? 9).map (fun i => (i.zero, i.size, i.bytes)) = some (some (.string ⟨#[]⟩), 1, 16) by kernel_rfl)); simp only [Prod.mk.injEq] at h; exact ⟨i, hi, h.1, h.2.1, h.2.2⟩

end Go.Proofs.Ytclinobfbdljhah
/- Walks: Names. -/
namespace Go.Proofs.Ytclinobfbdljhah
open Go.RowKit Go.Sort

abbrev srt (ss : List (List UInt8)) : List (List UInt8) := ss.mergeSort fun x y => decide (x ≤ y)

theorem compact_len (zs : List (List UInt8)) : (Lib.compact zs).length ≤ zs.length := by
  unfold Lib.compact Lib.compactUpTo; rw [List.length_map]; (exact Nat.le_trans (List.length_filter_le _ _) (by simp))

theorem compact_mem (zs : List (List UInt8)) (t : List UInt8) : t ∈ Lib.compact zs ↔ t ∈ zs := by
  unfold Lib.compact Lib.compactUpTo
  constructor
  · intro h
    obtain ⟨j, hj, rfl⟩ := List.mem_map.1 h; have hj := List.mem_range.1 (List.mem_filter.1 hj).1; (rw [getElem!_pos _ j (by simpa using hj)])
    simp
  · intro h
    obtain ⟨j, hj, rfl⟩ := List.getElem_of_mem h
    have key : ∀ j, j < zs.length → zs.toArray[j]! ∈ ((List.range zs.length).filter (Lib.keeps zs.toArray)).map (zs.toArray[·]!) := by
      intro j
      induction j with
      | zero => intro hj; exact List.mem_map.2 ⟨0, List.mem_filter.2 ⟨List.mem_range.2 hj, by simp [Lib.keeps]⟩, rfl⟩
      | succ j ih =>
        intro hj; by_cases hk : Lib.keeps zs.toArray (j + 1) = true
        · exact List.mem_map.2 ⟨j + 1, List.mem_filter.2 ⟨List.mem_range.2 hj, hk⟩, rfl⟩
        · have e : zs.toArray[j + 1]! = zs.toArray[j]! := by
            simpa [Lib.keeps] using hk
          rw [e]; (exact ih (by omega))
    have := key j hj; (rw [getElem!_pos _ j (by simpa using hj)] at this); simpa using this

/-- A list of texts in memory. -/
def TL (w : World) (v : Value) (l : List (List UInt8)) : Prop := ∃ ad cap, v = .slice ad l.length cap ∧ l.length ≤ cap ∧ cap ≤ maxLen ∧ (l ≠ [] → ∃ g, ad = some ⟨g, 0, none⟩ ∧ ∀ (j : Nat) (t : List UInt8), l[j]? = some t → w.cell? ⟨g, j, none⟩ = some (.string ⟨t.toArray⟩))
end Go.Proofs.Ytclinobfbdljhah
/- Walks: what FormulaSwaps calls. -/
namespace Go.Proofs.Ytclinobfbdljhah
open Go.RowKit

theorem txt_eq (a b : List UInt8) : ((⟨a.toArray⟩ : ByteArray).toList = (⟨b.toArray⟩ : ByteArray).toList) ↔ a = b := by
  rw [ByteArray.toList_eq, ByteArray.toList_eq]

set_option maxHeartbeats 1000000 in
theorem hasText_any (l : List (List UInt8)) (t : List UInt8) (v : Value) (w : World) (h : TL w v l) :
    Calls Try.prog 45 #[v, .string ⟨t.toArray⟩] w fun e w' => e = .returned (.bool (decide (t ∈ l))) ∧ w' = w := by
  obtain ⟨ad, cap, rfl, h1, h2, h3⟩ := h; (have hlI : (l.length : Int) ≤ 9223372036854775807 := by unfold maxLen at h2; omega); have H3 : Hid (l ≠ [] → ∃ g, ad = some ⟨g, 0, none⟩ ∧ ∀ (j : Nat) (t : List UInt8), l[j]? = some t → w.cell? ⟨g, j, none⟩ = some (.string ⟨t.toArray⟩)) := h3; clear h3
  go_enter Try.func45, Try.ntmps45
  go_wp2_with fail
  go_loopg [5] l.length (fun g c wr => ∃ i, i ≤ l.length ∧ g = l.length - i ∧ c = .int .i64 (i : Nat) ∧ wr = w ∧ Hid (t ∉ l.take i))
  case atStart => exact ⟨0, by omega, by omega, rfl, rfl, by show _ ∉ _; simp⟩
  case round =>
    obtain ⟨i, hi, hg, rfl, rfl, HN⟩ := hrel; have HG : Hid (gk = l.length - i) := hg; clear hg; by_cases hlt : i < l.length
    · obtain ⟨x, hx⟩ : ∃ x, l[i]? = some x := ⟨_, List.getElem?_eq_getElem hlt⟩
      (obtain ⟨g, rfl, hc⟩ := H3.out (fun e => by rw [e] at hlt; simp at hlt)); have g0 := hc i x hx; (have hltI : (i : Int) < (l.length : Int) := by omega); (have hlc : (i : Int) < (cap : Int) := by omega); have HX : Hid (l[i]? = some x) := hx; clear hc hx H3; by_cases hxt : x = t
      · subst hxt
        have HD : Hid (decide (x ∈ l) = true) := by
          show _ = _; exact decide_eq_true (List.mem_of_getElem? HX.out)
        go_wp2_with fail; go_ret; (exact ⟨by rw [HD.out]; rfl, rfl⟩)
      · have hne : ((⟨x.toArray⟩ : ByteArray).toList == (⟨t.toArray⟩ : ByteArray).toList) = false := by
          rw [beq_eq_false_iff_ne, Ne, txt_eq]; exact hxt
        have HNN : Hid (t ∉ l.take (i + 1)) := by
          show _ ∉ _; rw [List.take_add_one, HX.out]; intro hm
          rcases List.mem_append.1 hm with h | h
          · exact HN.out h
          · simp at h; exact hxt h.symm
        generalize hb : (⟨x.toArray⟩ : ByteArray) = X at *; generalize hb2 : (⟨t.toArray⟩ : ByteArray) = Y at *; clear hb hb2 HX; go_wp2_with fail
        go_roundg (l.length - (i + 1))
        case measure => have := HG.out; omega
        case rel => exact ⟨i + 1, by omega, rfl, by go_num, rfl, HNN⟩
    · have HD : Hid (decide (t ∈ l) = false) := by
        show _ = _; have := HN.out; (rw [List.take_of_length_le (by omega)] at this); exact decide_eq_false this
      (have hge : ¬ (i : Int) < (l.length : Int) := by omega); clear H3 HN; go_wp2_with fail; go_ret; (exact ⟨by rw [HD.out]; rfl, rfl⟩)

theorem code_zero {f : Fm} (h : f.code.1 = 0) : f.code = (0, 0) := by
  rcases hx : chk f 0 with s | ⟨c, a⟩
  · simp only [Fm.code, hx]
  · have := chk_code f 0 c a hx
    simp only [Fm.code, hx] at h; exact absurd h this
theorem code_chk {f : Fm} (h : f.code = (0, 0)) : ∃ s, chk f 0 = .ok s := by
  rcases hx : chk f 0 with s | ⟨c, a⟩
  · exact ⟨s, rfl⟩
  · have := chk_code f 0 c a hx
    simp only [Fm.code, hx] at h; exact absurd (Prod.mk.inj h).1 this

end Go.Proofs.Ytclinobfbdljhah
/- Names, rising, each once: such a list is told by what is in it. -/
namespace Go.Proofs.Ytclinobfbdljhah
open Go.Sort

abbrev Rising (l : List (List UInt8)) : Prop := l.Pairwise (· < ·)

theorem lt_irr (a : List UInt8) : ¬ a < a := List.lt_irrefl a
theorem lt_asy {a b : List UInt8} (h : a < b) : ¬ b < a := fun k => lt_irr a (List.lt_trans h k)
theorem lt_tot (a b : List UInt8) : a < b ∨ a = b ∨ b < a := by
  rcases Classical.em (a < b) with h | h
  · exact Or.inl h
  · rcases Classical.em (b < a) with k | k
    · exact Or.inr (Or.inr k)
    · exact Or.inr (Or.inl (List.le_antisymm (List.not_lt.1 k) (List.not_lt.1 h)))

theorem rising_ext : ∀ {l m : List (List UInt8)}, Rising l → Rising m → (∀ t, t ∈ l ↔ t ∈ m) → l = m
  | [], [], _, _, _ => rfl
  | [], b :: m, _, _, h => absurd ((h b).2 (List.mem_cons_self ..)) (by simp)
  | a :: l, [], _, _, h => absurd ((h a).1 (List.mem_cons_self ..)) (by simp)
  | a :: l, b :: m, hl, hm, h => by
    obtain ⟨hl1, hl2⟩ := List.pairwise_cons.1 hl; obtain ⟨hm1, hm2⟩ := List.pairwise_cons.1 hm
    have hab : a = b := by
      rcases List.mem_cons.1 ((h a).1 (List.mem_cons_self ..)) with e | e
      · exact e
      · rcases List.mem_cons.1 ((h b).2 (List.mem_cons_self ..)) with k | k
        · exact k.symm
        · exact absurd (hl1 b k) (lt_asy (hm1 a e))
    subst hab
    congr 1
    (refine rising_ext hl2 hm2 fun t => ⟨fun ht => ?_, fun ht => ?_⟩)
    · rcases List.mem_cons.1 ((h t).1 (List.mem_cons_of_mem _ ht)) with e | e
      · subst e; exact absurd (hl1 t ht) (lt_irr t)
      · exact e
    · rcases List.mem_cons.1 ((h t).2 (List.mem_cons_of_mem _ ht)) with e | e
      · subst e; exact absurd (hm1 t ht) (lt_irr t)
      · exact e

/-- A name at its place. -/
theorem rising_ins {l : List (List UInt8)} {t : List UInt8} {a : Nat} (hl : Rising l) (h1 : ∀ (j : Nat) (x : List UInt8), j < a → l[j]? = some x → x < t) (h2 : ∀ x, l[a]? = some x → ¬ x < t) (hn : t ∉ l) : Rising (l.take a ++ t :: l.drop a) := by
  have hd : ∀ x ∈ l.drop a, t < x := by
    intro x hx; obtain ⟨j, hj, rfl⟩ := List.getElem_of_mem hx; rw [List.length_drop] at hj; rw [List.getElem_drop]; (have hge : ¬ l[a]'(by omega) < t := h2 _ (List.getElem?_eq_getElem (by omega)))
    have hta : t < l[a]'(by omega) := by
      rcases lt_tot t (l[a]'(by omega)) with h | h | h
      · exact h
      · exact absurd (h ▸ List.getElem_mem (by omega)) hn
      · exact absurd h hge
    rcases Nat.eq_zero_or_pos j with e | e
    · subst e; simpa using hta
    · exact List.lt_trans hta (List.pairwise_iff_getElem.1 hl a (a + j) (by omega) (by omega) (by omega))
  rw [Rising, List.pairwise_append]; refine ⟨hl.sublist (List.take_sublist _ _), List.pairwise_cons.2 ⟨hd, hl.sublist (List.drop_sublist _ _)⟩, ?_⟩; intro x hx y hy; obtain ⟨j, hj, rfl⟩ := List.getElem_of_mem hx; rw [List.length_take] at hj; (have hxt : (l.take a)[j]'(by rw [List.length_take]; exact hj) < t := h1 j _ (by omega) (by rw [List.getElem_take]; exact List.getElem?_eq_getElem (by omega)))
  rcases List.mem_cons.1 hy with e | e
  · subst e; exact hxt
  · exact List.lt_trans hxt (hd y e)
end Go.Proofs.Ytclinobfbdljhah
