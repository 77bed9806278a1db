/- Texts of one proof, one behind the other: BL1. -/
import Derived.Test.YtffkoiemnchdgafB29
import Derived.Test.YtffkoiemnchdgafB22
/- Walks: the laws' own helpers between formulas: common. -/
namespace Go.Proofs.Ytffkoiemnchdgaf
open Go.RowKit Go.Sort

set_option maxHeartbeats 2000000 in
theorem common_any (l m : List (List UInt8)) (hl : l.length ≤ 8796093022208) (u z : Value) (w : World) (hu : SL w u l) (hz : SL w z m) :
    Calls Try.prog 12 #[u, z] w fun e w' => ∃ x, e = .returned x ∧ TL w' x (l.filter fun t => decide (t ∈ m)) ∧ Below w.heap.size w w' := by
  obtain ⟨ad, cap, rfl, h1, h2, h3⟩ := hu; (have hlI : (l.length : Int) ≤ 8796093022208 := by omega); have H3 : Hid (l ≠ [] → ∃ g off, ad = some ⟨g, off, none⟩ ∧ ∀ (j : Nat) (t : List UInt8), l[j]? = some t → w.cell? ⟨g, off + j, none⟩ = some (.string ⟨t.toArray⟩)) := h3; have HZ : Hid (SL w z m) := hz; obtain ⟨adz, capz, rfl, -⟩ := hz; obtain ⟨i0, hi, hz0, hz1, hz2⟩ := infoText; clear h3
  go_enter Try.func12, Try.ntmps12
  go_wp2_with fail
  go_loopg [6, 5] l.length (fun g c o wr => ∃ i ad cy, i ≤ l.length ∧ g = l.length - i ∧ c = .int .i64 (i : Nat) ∧ o = .slice ad ((l.take i).filter fun t => decide (t ∈ m)).length cy ∧ Below w.heap.size w wr ∧ Hid (KS w.heap.size wr ad cy ((l.take i).filter fun t => decide (t ∈ m))))
  case atStart => exact ⟨0, none, 0, by omega, by omega, rfl, rfl, Below.refl _ _, KS.nil⟩
  case round =>
    obtain ⟨i, ad', cy, hile, hg, rfl, rfl, hbr, HK⟩ := hrel; have HG : Hid (gk = l.length - i) := hg; clear hg; by_cases hlt : i < l.length
    · obtain ⟨t, ht⟩ : ∃ x, l[i]? = some x := ⟨_, List.getElem?_eq_getElem hlt⟩
      (obtain ⟨g, off, rfl, hc⟩ := H3.out (fun e => by rw [e] at hlt; simp at hlt)); have g0 := (hbr.cell (p := ⟨g, off + i, none⟩) (lt_of_cell (hc i t ht))).trans (hc i t ht); (have hltI : (i : Int) < (l.length : Int) := by omega); (have hlc : (i : Int) < (cap : Int) := by omega)
      have hT : (l.take (i + 1)).filter (fun t => decide (t ∈ m)) = (l.take i).filter (fun t => decide (t ∈ m)) ++ if t ∈ m then [t] else [] := by
        rw [List.take_add_one, ht, List.filter_append]; (by_cases hm : t ∈ m <;> simp [hm])
      (have hRl : ((l.take i).filter fun t => decide (t ∈ m)).length ≤ i := Nat.le_trans (List.length_filter_le _ _) (by rw [List.length_take]; omega)); have HX := hasText_sl m t _ wr (HZ.out.up hbr); (generalize hR : (l.take i).filter (fun t => decide (t ∈ m)) = R at *); have HXx : Hid (Calls Try.prog 42 _ wr _) := HX; clear hc ht H3 hR HX; by_cases hm : t ∈ m
      · have HT : Hid ((l.take (i + 1)).filter (fun t => decide (t ∈ m)) = R ++ [t]) := by
          show _ = _; rw [hT, if_pos hm]
        rw [decide_eq_true hm] at HXx; clear hT hm
        go_wp2_with (first
          | (go_at_call 42
             refine HXx.out.mono ?_; rintro e w1 ⟨rfl, hw1⟩; have hw2 := hw1.symm
             subst hw2)
          | (at_builtin
             (refine wpList_append_lies _ rfl _ _ 25 rfl w.heap.size 9 i0 (.string ⟨#[]⟩) 1 16 Try.underlying25 hi hz0 hz1 hz2 rfl (by decide) _ _ _ rfl (owns_up HK.out ((Below.refl _ wr).alloc (Nat.le_refl _) (.cells #[.string ⟨t.toArray⟩] 9 (0, 0)))) ⟨wr.heap.size, 0, none⟩ 1 1 [.string ⟨t.toArray⟩] rfl rfl ?_ ?_ (by omega) (by unfold maxLen; omega) (by omega) (by have := hbr.size; simp; omega) _ rfl ?_)
             · intro j u hu
               rw [add_none, Nat.zero_add, blk_cell (blk_new wr _)]; simpa using hu
             · intro u hu
               simp at hu
               rcases hu with rfl; rfl
             intro g5 cp5 w5 hown5 hgrow5 hat5 hlt5; have BF := below_grown hbr hbr.size HK.out hgrow5
             have HKN : Hid (KS w.heap.size w5 (some ⟨g5, 0, none⟩) cp5 (R ++ [t])) := by
               show KS _ _ _ _ _; unfold KS; rw [List.map_append, List.length_append]; exact hown5
             clear hown5 hgrow5 hat5)
          | fail)
        go_roundg (l.length - (i + 1))
        case measure => have := HG.out; omega
        case rel => exact ⟨i + 1, some ⟨g5, 0, none⟩, cp5, by omega, rfl, by go_num, by rw [HT.out, List.length_append]; rfl, BF, by show KS _ _ _ _ _; rw [HT.out]; exact HKN.out⟩
      · have HT : Hid ((l.take (i + 1)).filter (fun t => decide (t ∈ m)) = R) := by
          show _ = _; rw [hT, if_neg hm, List.append_nil]
        rw [decide_eq_false hm] at HXx; clear hT hm
        go_wp2_with (first
          | (go_at_call 42
             refine HXx.out.mono ?_; rintro e w1 ⟨rfl, hw1⟩; have hw2 := hw1.symm
             subst hw2)
          | fail)
        go_roundg (l.length - (i + 1))
        case measure => have := HG.out; omega
        case rel => exact ⟨i + 1, ad', cy, by omega, rfl, by go_num, by rw [HT.out], hbr, by show KS _ _ _ _ _; rw [HT.out]; exact HK.out⟩
    · have HKE : Hid (KS w.heap.size wr ad' cy (l.filter fun t => decide (t ∈ m))) := by
        have := HK.out; (rw [List.take_of_length_le (by omega)] at this); exact this
      (have hTE : (l.take i).filter (fun t => decide (t ∈ m)) = l.filter fun t => decide (t ∈ m) := by rw [List.take_of_length_le (by omega)]); (have hge : ¬ (i : Int) < (l.length : Int) := by omega); clear HK H3; rw [hTE]; clear hTE; go_wp2_with fail; go_ret; exact ⟨_, rfl, HKE.out.list, hbr⟩
end Go.Proofs.Ytffkoiemnchdgaf
