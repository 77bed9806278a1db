/- Texts of one proof, one behind the other: SC6. -/
import Derived.Test.YtclinobfbdljhahB33
import Derived.Test.YtclinobfbdljhahB11
import Derived.Test.YtclinobfbdljhahB12
import Derived.Deep.RegionLaw
/- Walks: names copied (copied). -/
namespace Go.Proofs.Ytclinobfbdljhah
open Go.RowKit Go.Sort

set_option maxRecDepth 10000 in
set_option maxHeartbeats 4000000 in
theorem copied_any (r : List (List UInt8)) (hl : r.length ≤ 30) (h8 : ∀ t ∈ r, t.length ≤ 8) (v : Value) (w : World) (hv : SL w v r) :
    Calls Try.prog 73 #[v] w fun e w' => ∃ ad cp, e = .returned (.slice ad r.length cp) ∧ KS w.heap.size w' ad cp r ∧ Below w.heap.size w w' := by
  obtain ⟨ad0, cp0, rfl, h1, h2, h3⟩ := hv; (have hlI : (r.length : Int) ≤ 30 := by omega); have HL : Hid (r.length ≤ 30) := hl; have H3 : Hid (r ≠ [] → ∃ g off, ad0 = some ⟨g, off, none⟩ ∧ ∀ (j : Nat) (t : List UInt8), r[j]? = some t → w.cell? ⟨g, off + j, none⟩ = some (.string ⟨t.toArray⟩)) := h3; have H8 : Hid (∀ t ∈ r, t.length ≤ 8) := h8; (have hcI : (r.length : Int) ≤ (cp0 : Int) := by omega); clear h3 h1 h2 h8 hl
  go_enter Try.func73, Try.ntmps73
  go_wp2_with fail
  go_loopg [8, 3, 5] r.length (fun gg cc x y5 wr => ∃ i ad cp, i ≤ r.length ∧ gg = r.length - i ∧ cc = .int .i64 (i : Nat) ∧ x = .slice ad i cp ∧ Hid (KS w.heap.size wr ad cp (r.take i)) ∧ Hid (Below w.heap.size w wr))
  case atStart => exact ⟨0, none, 0, by omega, by omega, rfl, rfl, by rw [List.take_zero]; exact KS.nil, Below.refl _ _⟩
  case round =>
    obtain ⟨i, ad, cp, hi, hg, rfl, rfl, HK, HB⟩ := hrel; have HGk : Hid (gk = r.length - i) := hg; clear hg; by_cases hlt : i < r.length
    · have hltI : (i : Int) < (r.length : Int) := by omega
      (have hltc : (i : Int) < (cp0 : Int) := by omega); have HI : Hid (i < r.length) := hlt; obtain ⟨t, ht⟩ : ∃ t, r[i]? = some t := ⟨_, List.getElem?_eq_getElem hlt⟩; (obtain ⟨g, off, rfl, hc⟩ := H3.out (fun e => by rw [e] at hlt; simp at hlt)); have g0 := (HB.out.cell (p := ⟨g, off + i, none⟩) (lt_of_cell (hc i t ht))).trans (hc i t ht); have ht8 := H8.out t (List.mem_of_getElem? ht); (have HCl : Hid (Calls Try.prog 99 #[.string ⟨t.toArray⟩] wr fun e w' => e = .returned (.string ⟨t.toArray⟩) ∧ Below wr.heap.size wr w') := clone_any ⟨t.toArray⟩ wr (by simp [ByteArray.size]; omega)); (have htl : (r.take i).length = i := by rw [List.length_take]; omega); (have HTk : Hid (r.take (i + 1) = r.take i ++ [t]) := by show _ = _; rw [List.take_add_one, ht]; rfl); have HTs : Hid ((⟨t.toArray⟩ : ByteArray) = ⟨t.toArray⟩ ∧ (.string ⟨t.toArray⟩ : Value) = encStr t) := ⟨rfl, rfl⟩
      have HKs : Hid (wr.ownsRow w.heap.size 9 1 (.slice ad i cp) i ((r.take i).map encStr)) := by
        have := HK.out; unfold KS at this; rw [htl] at this; exact this
      (have hi30 : (i : Int) ≤ 30 := by omega); generalize hTq : (⟨t.toArray⟩ : ByteArray) = TT at *; clear hlt hi hc ht ht8 H3 hTq; go_wp2_with fail; refine HCl.out.mono ?_; rintro _ w1 ⟨rfl, hb1⟩; have HK1 : Hid (w1.ownsRow w.heap.size 9 1 (.slice ad i cp) i ((r.take i).map encStr)) := rowM_up HKs.out hb1; have HB1 : Hid (Below w.heap.size w w1) := below_join HB.out hb1; clear hb1; obtain ⟨i0, hi0, hz0, hz1, hz2⟩ := infoText
      go_wp2_with (first
        | (at_builtin
           have hsz := HB1.out.size; have hown := rowM_up HK1.out ((Below.refl _ w1).alloc (Nat.le_refl _) (.cells #[.string TT] 9 (0, 0))); (refine wpList_append_lies _ rfl _ _ 80 rfl w.heap.size 9 i0 (.string ⟨#[]⟩) 1 16 Try.underlying80 hi0 hz0 hz1 hz2 rfl (by decide) (.slice ad i cp) i ((r.take i).map encStr) rfl hown ⟨w1.heap.size, 0, none⟩ 1 1 [.string TT] rfl rfl ?_ ?_ (by omega) (by unfold maxLen; omega) (by omega) (by simp; omega) _ rfl ?_)
           · intro j u hu
             rw [add_none, Nat.zero_add, blk_cell (blk_new w1 _)]; simpa using hu
           · intro u hu
             simp at hu; subst hu; rfl
           intro g3 cp3 w3 hown3 hgrow hat hlt3; have hgrow' : (w1.alloc (.cells #[.string TT] 9 (0, 0))).grownBy w3 (Value.slice ad i cp).ownBlock := hgrow; have hlt' := World.ownsRow.lt HK1.out; (have HB3 : Hid (Below w.heap.size w w3) := ((HB1.out.alloc hsz _).grown hgrow' (by simp; omega) fun k hk => by have := (hlt' k hk).1; omega)); have HO3 : Hid (w3.ownsRow w.heap.size 9 1 (.slice (some ⟨g3, 0, none⟩) (i + 1) cp3) (i + 1) ((r.take i).map encStr ++ [.string TT])) := hown3
           clear hgrow hgrow' hat hown3 hown hsz hlt3 hi0 hz0 hz1 hz2 hlt')
        | fail)
      (have htl2 : (r.take (i + 1)).length = i + 1 := by rw [List.length_take]; have := HI.out; omega)
      go_roundg (r.length - (i + 1))
      case measure => have := HGk.out; have := HI.out; omega
      case rel =>
        (refine ⟨i + 1, some ⟨g3, 0, none⟩, cp3, HI.out, rfl, by go_num, by go_num, ?_, HB3⟩); show KS _ _ _ _ _; unfold KS; rw [htl2, HTk.out, List.map_append, List.map_cons, List.map_nil, ← HTs.out.2]; exact HO3.out
    · have hii : i = r.length := by omega
      subst hii; (have hge : ¬ (r.length : Int) < (r.length : Int) := by omega); rw [List.take_length] at HK; clear hlt hi; go_wp2_with fail; go_ret; exact ⟨ad, cp, rfl, HK.out, HB.out⟩
end Go.Proofs.Ytclinobfbdljhah
