/- Texts of one proof, one behind the other: CW2, CS3. -/
import Derived.Test.YtlmjnglcdgkomacB09
import Derived.Test.YtlmjnglcdgkomacB10
import Derived.Deep.RegionLaw
import Derived.Test.YtlmjnglcdgkomacB19
import Derived.Test.YtlmjnglcdgkomacB12
/- Walks: a copy of a list of formulas. -/
namespace Go.Proofs.Ytlmjnglcdgkomac
open Go.RowKit

theorem fsize_pos (f : Fm) : 1 ≤ f.size := by cases f; rw [Fm.size]; omega
theorem len_sizes : ∀ ks : List Fm, ks.length ≤ Fm.sizes ks
  | [] => by simp
  | k :: ks => by
    have := len_sizes ks; have := fsize_pos k; rw [Fm.sizes, List.length_cons]; omega
mutual
theorem slim_of : ∀ (f : Fm), f.size ≤ 25000 → Slim f
  | .mk k n ks, h => by
    rw [Fm.size] at h
    exact Slim.mk k n ks (by have := len_sizes ks; omega) fun i f hf => by
      obtain ⟨hi, e⟩ := List.getElem?_eq_some_iff.1 hf; (exact slims_of ks (by omega) f (e ▸ List.getElem_mem hi))
theorem slims_of : ∀ (ks : List Fm), Fm.sizes ks ≤ 25000 → ∀ f ∈ ks, Slim f
  | [], _, f, hf => by cases hf
  | k :: ks, h, f, hf => by
    rw [Fm.sizes] at h
    rcases List.mem_cons.1 hf with e | hf
    · rw [e]; exact slim_of k (by omega)
    · exact slims_of ks (by omega) f hf
end

end Go.Proofs.Ytlmjnglcdgkomac
/- Walks: a formula for a name in all of a list. -/
namespace Go.Proofs.Ytlmjnglcdgkomac
open Go.RowKit

set_option maxHeartbeats 8000000 in
theorem withAll_any (nm : ByteArray) (g : Fm) (A : Nat) (fs : List Fm) (hl : fs.length ≤ 300) (hslim : ∀ f ∈ fs, Slim f) (v u : Value) (w : World) (hA : A ≤ w.heap.size) (hv : FL w v fs) (hu : Rep w (· < A) g u) :
    Calls Try.prog 22 #[v, .string nm, u] w fun e w' => ∃ x, e = .returned x ∧ FLp (fun b => b < A ∨ w.heap.size ≤ b) w' x (fs.map (putF nm g)) ∧ Below w.heap.size w w' := by
  obtain ⟨adv, cap, rfl, hx1, hx2, hx3⟩ := hv; obtain ⟨kg, ng, ksg⟩ := g; obtain ⟨slg, capg, rfl⟩ := slice_shape hu; (have HX : Hid (fs ≠ [] → ∃ b off, adv = some ⟨b, off, none⟩ ∧ Reps w (fun _ => True) b off fs) := hx3); have HSl : Hid (∀ f ∈ fs, Slim f) := hslim; have HU : Hid (Rep w (· < A) (.mk kg ng ksg) (.agg #[.int .i64 kg, .string ng, .slice slg ksg.length capg])) := hu; obtain ⟨i0, hi, hz0, hz1, hz2⟩ := infoFormula; have HIo : Hid (Try.prog.info? 24 = some i0 ∧ i0.zero = some (.agg #[.int .i64 0, .string ⟨#[]⟩, .slice none 0 0]) ∧ i0.size = 3 ∧ i0.bytes = 48) := ⟨hi, hz0, hz1, hz2⟩; (have hlI : (fs.length : Int) ≤ 300 := by omega); have HB0 : Hid (Below w.heap.size w (w.alloc (.cells #[.int .i64 kg, .string ng, .slice slg ksg.length capg] 24 (0, 0)))) := below_more (Below.refl _ w) _; have HN0 : Hid ((w.alloc (.cells #[.int .i64 kg, .string ng, .slice slg ksg.length capg] 24 (0, 0))).heap[w.heap.size]? = some (.cells #[.int .i64 kg, .string ng, .slice slg ksg.length capg] 24 (0, 0))) := blk_new w _; clear hx3 hslim hu hi hz0 hz1 hz2
  go_enter Try.func22, Try.ntmps22
  go_wp2_with fail
  go_loopg [7, 8] fs.length (fun gg o c wr => ∃ i ad cp, i ≤ fs.length ∧ gg = fs.length - i ∧ c = .int .i64 (i : Nat) ∧ o = .slice ad i cp ∧ Below w.heap.size w wr ∧ wr.heap[w.heap.size]? = some (.cells #[.int .i64 kg, .string ng, .slice slg ksg.length capg] 24 (0, 0)) ∧ Hid (KP (fun b => b < A ∨ w.heap.size + 1 ≤ b) (w.heap.size + 1) wr ad cp ((fs.take i).map (putF nm (.mk kg ng ksg)))))
  case atStart => exact ⟨0, none, 0, by omega, by omega, rfl, rfl, HB0.out, HN0.out, KP.nil⟩
  case round =>
    obtain ⟨i, ad, cp, hile, hg, rfl, rfl, hbr, q0, HK⟩ := hrel; have HG : Hid (gk = fs.length - i) := hg; clear hg; obtain ⟨e0, e1, e2, -⟩ := blk3 q0; have z0 := lt_of_block q0; have zz := hbr.size; by_cases hlt : i < fs.length
    · obtain ⟨⟨k2, n2, ks2⟩, hki⟩ : ∃ f, fs[i]? = some f := ⟨_, List.getElem?_eq_getElem hlt⟩
      (have hltI : (i : Int) < (fs.length : Int) := by omega); (obtain ⟨b, off, hsl, hrs⟩ := HX.out (fun e => by rw [e] at hlt; simp at hlt)); subst hsl; obtain ⟨sl2, cap2, g0, g1, g2, hrep2⟩ := (hrs.up hbr).at i k2 n2 ks2 hki; (have hlc : ((i : Nat) : Int) < ((cap : Nat) : Int) := by omega); have hfk := HSl.out _ (List.mem_of_getElem? hki); (have HIH : Hid (∀ wx, Below w.heap.size w wx → Rep wx (fun _ => True) (.mk k2 n2 ks2) (.agg #[.int .i64 k2, .string n2, .slice sl2 ks2.length cap2]) → Calls Try.prog 21 #[.agg #[.int .i64 k2, .string n2, .slice sl2 ks2.length cap2], .string nm, .agg #[.int .i64 kg, .string ng, .slice slg ksg.length capg]] wx fun e w' => ∃ x, e = .returned x ∧ Rep w' (fun b => b < A ∨ wx.heap.size ≤ b) (putF nm (.mk kg ng ksg) (.mk k2 n2 ks2)) x ∧ Below wx.heap.size wx w') := fun wx hbx h => withs_all nm _ A _ _ _ _ wx (Nat.lt_succ_self _) hfk (by have := hbx.size; omega) h (HU.out.low (hbx.mono hA))); have zb := lt_of_cell g0; simp only at zb
      have HT : Hid ((fs.take (i + 1)).map (putF nm (.mk kg ng ksg)) = (fs.take i).map (putF nm (.mk kg ng ksg)) ++ [putF nm (.mk kg ng ksg) (.mk k2 n2 ks2)]) := by
        show _ = _; rw [List.take_add_one, hki]; simp
      (have hti : ((fs.take i).map (putF nm (.mk kg ng ksg))).length = i := by rw [List.length_map, List.length_take]; omega)
      have HOB : Hid (∀ b, b < A ∨ wr.heap.size ≤ b → (b < A ∨ w.heap.size + 1 ≤ b) ∧ (Value.slice ad i cp).ownBlock ≠ some b) := fun b hb => by
        obtain ⟨cs, ho, -⟩ := HK.out; rw [hti] at ho; (refine ⟨by omega, fun e => ?_⟩); have := ho.lt b e; omega
      (have HR2 : Hid (Rep wr (fun _ => True) (.mk k2 n2 ks2) (.agg #[.int .i64 k2, .string n2, .slice sl2 ks2.length cap2])) := hrep2); clear hki hrs HX hrep2 hfk; obtain ⟨hi, hz0, hz1, hz2⟩ := HIo.out; generalize (fs.take i).map (putF nm (.mk kg ng ksg)) = done at *; generalize putF nm (.mk kg ng ksg) (.mk k2 n2 ks2) = kid3 at HIH HT; obtain ⟨k3, n3, ks3⟩ := kid3; have HTI : Hid (done.length = i) := hti; clear hti; go_wp2_with fail
      go_region_law
        (first
         | (have hown := (HK.out.up hb1').up ((Below.refl _ w1).alloc (Nat.le_refl _) (.cells #[.int .i64 k3, .string n3, .slice sl3 ks3.length cap3] 24 (0, 0)))
            obtain ⟨cs, hown, hlq⟩ := hown; rw [HTI.out] at hown hlq; (refine step_append_lies _ rfl _ _ 22 rfl (w.heap.size + 1) 24 i0 (.agg #[.int .i64 0, .string ⟨#[]⟩, .slice none 0 0]) 3 48 Try.underlying22 hi hz0 hz1 hz2 rfl (by decide) _ _ _ rfl hown ⟨w1.heap.size, 0, none⟩ 1 1 [.int .i64 k3, .string n3, .slice sl3 ks3.length cap3] rfl rfl ?_ ?_ (by omega) (by unfold maxLen; omega) (by omega) (by simp; omega) _ rfl ?_)
            · intro j u hu
              rw [add_none, Nat.zero_add, blk_cell (blk_new w1 _)]; simpa using hu
            · intro u hu
              simp at hu
              rcases hu with rfl | rfl | rfl <;> rfl
            intro g3 cp3 w3 hown3 hgrow hat hlt3; have hgrow' : (w1.alloc (.cells #[.int .i64 k3, .string n3, .slice sl3 ks3.length cap3] 24 (0, 0))).grownBy w3 (Value.slice ad i cp).ownBlock := hgrow; have hat' : (Value.slice ad i cp).ownBlock = some g3 ∨ g3 = (w1.alloc (.cells #[.int .i64 k3, .string n3, .slice sl3 ks3.length cap3] 24 (0, 0))).heap.size := hat; clear hgrow hat; (obtain ⟨hbB, hko⟩ := KP.app HTI.out (by omega) hown hlq (hrep3.move fun b hb1 hb2 => ⟨rfl, (HOB.out b hb2).1, (HOB.out b hb2).2⟩) hown3 hgrow' hat'); (have HKO : Hid (KP (fun b => b < A ∨ w.heap.size + 1 ≤ b) (w.heap.size + 1) w3 (some ⟨g3, 0, none⟩) cp3 (done ++ [.mk k3 n3 ks3])) := hko); clear hgrow' hat' hown3 hown hlq hko; (have t0 := (hbB.block w.heap.size (by omega)).trans r0)
            have y5 := hbB.size)
         | (go_simp
            refine (HIH.out _ (hbr.drew) (HR2.out.up (Below.refl _ _).drew)).mono ?_; rintro e w1 ⟨x, rfl, hrep3, hb1⟩; obtain ⟨sl3, cap3, rfl⟩ := slice_shape hrep3; have hb1' : Below wr.heap.size wr w1 := (Below.refl _ wr).drew.trans hb1; clear hb1; have r0 := below_keep hb1' q0; have y6 := hb1'.size
            dsimp only)
         | fail)
      all_goals
        go_wp2_with fail; (have BB : Below w.heap.size w w3 := (hbr.trans (hb1'.mono zz)).trans (hbB.mono (by omega)))
        have HKN : Hid (KP (fun b => b < A ∨ w.heap.size + 1 ≤ b) (w.heap.size + 1) w3 (some ⟨g3, 0, none⟩) cp3 ((fs.take (i + 1)).map (putF nm (.mk kg ng ksg)))) := by
          show KP _ _ _ _ _ _; rw [HT.out]; exact HKO.out
        go_roundg (fs.length - (i + 1))
        case measure => have := HG.out; omega
        case rel => exact ⟨i + 1, some ⟨g3, 0, none⟩, cp3, by omega, rfl, by go_num, rfl, BB, t0, HKN⟩
    · obtain rfl : i = fs.length := by omega
      have HKE : Hid (KP (fun b => b < A ∨ w.heap.size + 1 ≤ b) (w.heap.size + 1) wr ad cp (fs.map (putF nm (.mk kg ng ksg)))) := by
        have := HK.out; rw [List.take_length] at this; exact this
      (have hge : ¬ (fs.length : Int) < (fs.length : Int) := by omega); clear HK HX; go_wp2_with fail; go_ret; (have hf := kp_list HKE.out fun b hb => Or.inr hb); rw [List.length_map] at hf; (exact ⟨_, rfl, hf.move fun b _ hp => ⟨rfl, by omega⟩, hbr⟩)
end Go.Proofs.Ytlmjnglcdgkomac
