/- Texts of one proof, one behind the other: CW2. -/
import Derived.Test.YtlmjnglcdgkomacB12
import Derived.Test.YtlmjnglcdgkomacB18
/- Walks: a copy of a list of formulas. -/
namespace Go.Proofs.Ytlmjnglcdgkomac
open Go.RowKit

theorem fsize_pos (f : Fm) : 1 ≤ f.size := by cases f; rw [Fm.size]; omega
theorem len_sizes : ∀ ks : List Fm, ks.length ≤ Fm.sizes ks
  | [] => by simp
  | k :: ks => by
    have := len_sizes ks; have := fsize_pos k; rw [Fm.sizes, List.length_cons]; omega
mutual
theorem slim_of : ∀ (f : Fm), f.size ≤ 25000 → Slim f
  | .mk k n ks, h => by
    rw [Fm.size] at h
    exact Slim.mk k n ks (by have := len_sizes ks; omega) fun i f hf => by
      obtain ⟨hi, e⟩ := List.getElem?_eq_some_iff.1 hf; (exact slims_of ks (by omega) f (e ▸ List.getElem_mem hi))
theorem slims_of : ∀ (ks : List Fm), Fm.sizes ks ≤ 25000 → ∀ f ∈ ks, Slim f
  | [], _, f, hf => by cases hf
  | k :: ks, h, f, hf => by
    rw [Fm.sizes] at h
    rcases List.mem_cons.1 hf with e | hf
    · rw [e]; exact slim_of k (by omega)
    · exact slims_of ks (by omega) f hf
end

set_option maxHeartbeats 4000000 in
theorem ownList_any (fs : List Fm) (hl : fs.length ≤ 300) (hslim : ∀ f ∈ fs, Slim f) (v : Value) (w : World) (hv : FL w v fs) :
    Calls Try.prog 20 #[v] w fun e w' => ∃ ad cp, e = .returned (.slice ad fs.length cp) ∧ KO w.heap.size w' ad cp fs ∧ Below w.heap.size w w' := by
  obtain ⟨adv, cap, rfl, hx1, hx2, hx3⟩ := hv; (have HX : Hid (fs ≠ [] → ∃ b off, adv = some ⟨b, off, none⟩ ∧ Reps w (fun _ => True) b off fs) := hx3); have HSl : Hid (∀ f ∈ fs, Slim f) := hslim; obtain ⟨i0, hi, hz0, hz1, hz2⟩ := infoFormula; (have hlI : (fs.length : Int) ≤ 300 := by omega); clear hx3 hslim
  go_enter Try.func20, Try.ntmps20
  go_wp2_with fail
  go_loopg [3, 4] fs.length (fun g u c wr => ∃ i ad cp, i ≤ fs.length ∧ g = fs.length - i ∧ c = .int .i64 (i : Nat) ∧ u = .slice ad i cp ∧ Below w.heap.size w wr ∧ Hid (KO w.heap.size wr ad cp (fs.take i)))
  case atStart => exact ⟨0, none, 0, by omega, by omega, rfl, rfl, Below.refl _ w, KO.nil⟩
  case round =>
    obtain ⟨i, ad, cp, hile, hg, rfl, rfl, hbr, HK⟩ := hrel; have HG : Hid (gk = fs.length - i) := hg; clear hg; have zz := hbr.size; by_cases hlt : i < fs.length
    · obtain ⟨⟨k2, n2, ks2⟩, hki⟩ : ∃ f, fs[i]? = some f := ⟨_, List.getElem?_eq_getElem hlt⟩
      (have hltI : (i : Int) < (fs.length : Int) := by omega); (obtain ⟨b, off, hsl, hrs⟩ := HX.out (fun e => by rw [e] at hlt; simp at hlt)); subst hsl; obtain ⟨sl2, cap2, g0, g1, g2, hrep2⟩ := (hrs.up hbr).at i k2 n2 ks2 hki; (have hlc : ((i : Nat) : Int) < ((cap : Nat) : Int) := by omega); have HIH : Hid (Calls Try.prog 29 #[.agg #[.int .i64 k2, .string n2, .slice sl2 ks2.length cap2]] wr _) := own_any _ _ wr (HSl.out _ (List.mem_of_getElem? hki)) hrep2
      have HT : Hid (fs.take (i + 1) = fs.take i ++ [.mk k2 n2 ks2]) := by
        show _ = _; rw [List.take_add_one, hki]; rfl
      (have hti : (fs.take i).length = i := by rw [List.length_take]; omega); have HTI : Hid ((fs.take i).length = i) := hti
      have HOB : Hid (∀ b, wr.heap.size ≤ b → w.heap.size ≤ b ∧ (Value.slice ad i cp).ownBlock ≠ some b) := fun b hb => by
        obtain ⟨cs, ho, -⟩ := HK.out; rw [hti] at ho; (exact ⟨by omega, fun e => by have := (ho.lt b e).2; omega⟩)
      clear hki hrs HX hrep2 hti
      go_wp2_with (first
        | (go_at_call 29
           refine HIH.out.mono ?_; rintro e w1 ⟨u, rfl, hrep3, hb1⟩; obtain ⟨sl3, cap3, rfl⟩ := slice_shape hrep3; have HR3 : Hid (Rep w1 (wr.heap.size ≤ ·) (.mk k2 n2 ks2) _) := hrep3; have zw1 := hb1.size
           clear hrep3)
        | (at_builtin
           obtain ⟨cs, hown, hlq⟩ := (HK.out.up hb1).up ((Below.refl _ w1).alloc (Nat.le_refl _) (.cells #[.int .i64 k2, .string n2, .slice sl3 ks2.length cap3] 24 (0, 0))); rw [HTI.out] at hown hlq; (refine wpList_append_lies _ rfl _ _ 22 rfl w.heap.size 24 i0 (.agg #[.int .i64 0, .string ⟨#[]⟩, .slice none 0 0]) 3 48 Try.underlying22 hi hz0 hz1 hz2 rfl (by decide) _ _ _ rfl hown ⟨w1.heap.size, 0, none⟩ 1 1 [.int .i64 k2, .string n2, .slice sl3 ks2.length cap3] rfl rfl ?_ ?_ (by omega) (by unfold maxLen; omega) (by omega) (by simp; omega) _ rfl ?_)
           · intro j u hu
             rw [add_none, Nat.zero_add, blk_cell (blk_new w1 _)]; simpa using hu
           · intro u hu
             simp at hu
             rcases hu with rfl | rfl | rfl <;> rfl
           intro g3 cp3 w3 hown3 hgrow hat hlt3; have hgrow' : (w1.alloc (.cells #[.int .i64 k2, .string n2, .slice sl3 ks2.length cap3] 24 (0, 0))).grownBy w3 (Value.slice ad i cp).ownBlock := hgrow; have hat' : (Value.slice ad i cp).ownBlock = some g3 ∨ g3 = (w1.alloc (.cells #[.int .i64 k2, .string n2, .slice sl3 ks2.length cap3] 24 (0, 0))).heap.size := hat; clear hgrow hat; (obtain ⟨hbB, hko⟩ := KO.app HTI.out (by omega) hown hlq (HR3.out.move fun b hb1 hb2 => ⟨rfl, (HOB.out b hb2).1, (HOB.out b hb2).2⟩) hown3 hgrow' hat'); have HKO : Hid (KO w.heap.size w3 (some ⟨g3, 0, none⟩) cp3 (fs.take i ++ [.mk k2 n2 ks2])) := hko
           clear hgrow' hat' hown3 hown hlq hko)
        | fail)
      go_roundg (fs.length - (i + 1))
      case measure => have := HG.out; omega
      case rel =>
        (refine ⟨i + 1, some ⟨g3, 0, none⟩, cp3, by omega, rfl, by go_num, rfl, (hbr.trans (hb1.mono zz)).trans hbB, ?_⟩); show KO _ _ _ _ _; rw [HT.out]; exact HKO.out
    · obtain rfl : i = fs.length := by omega
      have HKE : Hid (KO w.heap.size wr ad cp fs) := by
        have := HK.out; rw [List.take_length] at this; exact this
      (have hge : ¬ (fs.length : Int) < (fs.length : Int) := by omega); clear HK HX; go_wp2_with fail; go_ret; exact ⟨ad, cp, rfl, HKE.out, hbr⟩
end Go.Proofs.Ytlmjnglcdgkomac
