/- Texts of one proof, one behind the other: KW3, KW4, KX1. -/
import Derived.Test.YtalnljnincnbdacGreatB19
import Derived.Test.YtalnljnincnbdacGreatB05
import Derived.Test.YtalnljnincnbdacGreatB21
import Derived.Test.YtalnljnincnbdacGreatB24
import Derived.Test.YtalnljnincnbdacGreatB02
import Derived.Test.YtalnljnincnbdacGreatB14
/- Walks: a part's formula, in new memory. -/
namespace Go.Proofs.YtalnljnincnbdacGreat
open Go.RowKit

def Forms (Ph : Fm → Prop) (T : Nat → Prop) (bt : Nat) (ps : List PartM) (fs : List Fm) (m : Nat) : Prop := ∀ (w : World) (n : Nat) (f : Fm), Tab Ph w T bt ps fs → fs[n]? = some f → f.size < m →
  Calls Tryz.prog 147 #[.pointer (some ⟨bt, 0, none⟩), .int .i64 (n : Nat)] w fun e w' => ∃ v, e = .returned v ∧ Rep w' (w.heap.size ≤ ·) f v ∧ Below w.heap.size w w'
set_option maxRecDepth 10000 in
set_option maxHeartbeats 8000000 in
theorem form_step {Ph : Fm → Prop} {T : Nat → Prop} {bt : Nat} {ps : List PartM} {fs : List Fm} (m : Nat) (ih : Forms Ph T bt ps fs m) : Forms Ph T bt ps fs (m + 1) := by
  intro w n f htab hf hm; (have hnl : n < ps.length := by rw [htab.ok.len]; exact (List.getElem?_eq_some_iff.1 hf).1); obtain ⟨⟨k, nm, kids⟩, hp⟩ : ∃ p, ps[n]? = some p := ⟨_, List.getElem?_eq_getElem hnl⟩; obtain ⟨hkl, hfm⟩ := htab.ok.at' n _ hp
  have ef : f = Fm.mk k nm (kids.map fun j => fs.getD j zeroF) := by
    rw [hf] at hfm; exact Option.some.inj hfm
  have hsm : PartSmall ⟨k, nm, kids⟩ := by
    obtain ⟨_, _, _, _, _, -, -, -, -, -, h6, -⟩ := htab.tab; exact h6 _ (List.mem_of_getElem? hp)
  obtain ⟨gP, cP, g', cN, bm, mm, hbt, hc1, hc2, -, -, -, d0, d1, d2, d3, d4, -⟩ := htab.tab.at' hp; obtain ⟨q0, q1, q2, -⟩ := blk3 hbt; have zt := lt_of_block hbt; have zp := lt_of_cell d0; simp only at zp; (have hnI : (n : Int) < (ps.length : Int) := by omega); (have hnc : (n : Int) < (cP : Int) := by omega); have hk2 : kids.length ≤ 2 := hsm.two; (have hk2I : (kids.length : Int) ≤ 2 := by omega); (have hpl : (ps.length : Int) ≤ 9223372036854775807 := by unfold maxLen at hc2; omega); have HNm : Hid (nm.size ≤ maxLen) := hsm.name; have HT : Hid (Tab Ph w T bt ps fs) := htab; subst ef; (obtain ⟨ks, hks⟩ : ∃ ks, ks = kids.map fun j => fs.getD j zeroF := ⟨_, rfl⟩); (have hkl2 : ks.length = kids.length := by rw [hks]; simp); rw [← hks] at hm ⊢
  have HK : Hid (∀ i j, kids[i]? = some j → ∃ g, ks[i]? = some g ∧ fs[j]? = some g) := fun i j hj => by
    have hlt : j < fs.length := by
      have := hkl j (List.mem_of_getElem? hj); rw [← htab.ok.len]; omega
    (exact ⟨fs.getD j zeroF, by rw [hks, List.getElem?_map, hj]; rfl, getD_lt hlt⟩)
  have HKc : Hid (∀ i j, kids[i]? = some j → (i = 0 ∧ (PartM.mk k nm kids).k0 = j) ∨ (i = 1 ∧ (PartM.mk k nm kids).k1 = j)) := fun i j hj => by
    have hlt := (List.getElem?_eq_some_iff.1 hj).1; unfold PartM.k0 PartM.k1
    rcases (show i = 0 ∨ i = 1 by omega) with rfl | rfl
    · exact Or.inl ⟨rfl, by rw [List.getD_eq_getElem?_getD, hj]; rfl⟩
    · exact Or.inr ⟨rfl, by rw [List.getD_eq_getElem?_getD, hj]; rfl⟩
  (have HKj : Hid (∀ i j, kids[i]? = some j → j < 1000000) := fun i j hj => hsm.kids j (List.mem_of_getElem? hj)); have HMs : Hid ((Fm.mk k nm ks).size < m + 1) := hm; have HIH : Hid (Forms Ph T bt ps fs m) := ih; have HLe : Hid (ks.length = kids.length) := hkl2; (have zt1 : bt < w.heap.size + 1 := by omega); (have zp1 : gP < w.heap.size + 1 := by omega); obtain ⟨i0, hi, hz0, hz1, hz2⟩ := infoFormula; have HIo : Hid (Tryz.prog.info? 29 = some i0 ∧ i0.zero = some (.agg #[.int .i64 0, .string ⟨#[]⟩, .slice none 0 0]) ∧ i0.size = 3 ∧ i0.bytes = 48) := ⟨hi, hz0, hz1, hz2⟩; generalize (PartM.mk k nm kids).k0 = k0 at *; generalize (PartM.mk k nm kids).k1 = k1 at *; obtain ⟨c, hc⟩ : ∃ c, c = kids.length := ⟨_, rfl⟩; have HC : Hid (c = kids.length) := hc; simp only at d2; rw [← hc] at hk2I hk2 d2; clear htab hf hm hnl hp hkl hfm hsm hbt hks hkl2 ih hi hz0 hz1 hz2 hc
  go_enter Tryz.func147, Tryz.ntmps147
  go_wp2_with fail; obtain ⟨W, hW⟩ : ∃ W, W = (((w.alloc (.cells #[.int .i64 0, .string ⟨#[]⟩, .slice none 0 0] 29 (0, 0))).alloc (.cells #[.int .i64 k, .string nm, .int .i64 (c : Nat), .int .i64 (k0 : Nat), .int .i64 (k1 : Nat)] 158 (0, 0))).alloc (.cells #[.int .i64 k, .string nm, .slice none 0 0] 29 (0, 0))) := ⟨_, rfl⟩; rw [← hW]; (have HB0 : Hid (Below w.heap.size w W) := by rw [hW]; exact below_more (below_more (below_more (Below.refl _ w) _) _) _); (have HP0 : Hid (W.heap[w.heap.size]? = some (.cells #[.int .i64 0, .string ⟨#[]⟩, .slice none 0 0] 29 (0, 0))) := by rw [hW]; exact alloc_keep (alloc_keep (blk_new w _) _) _); (have HP1 : Hid (W.heap[w.heap.size + 1]? = some (.cells #[.int .i64 k, .string nm, .int .i64 (c : Nat), .int .i64 (k0 : Nat), .int .i64 (k1 : Nat)] 158 (0, 0))) := by rw [hW]; exact alloc_keep (blk_two w _ _) _)
  have HP2 : Hid (W.heap[w.heap.size + 1 + 1]? = some (.cells #[.int .i64 k, .string nm, .slice none 0 0] 29 (0, 0))) := by
    rw [hW]; have := blk_new ((w.alloc (.cells #[.int .i64 0, .string ⟨#[]⟩, .slice none 0 0] 29 (0, 0))).alloc (.cells #[.int .i64 k, .string nm, .int .i64 (c : Nat), .int .i64 (k0 : Nat), .int .i64 (k1 : Nat)] 158 (0, 0))) (.cells #[.int .i64 k, .string nm, .slice none 0 0] 29 (0, 0)); rw [World.size_alloc, World.size_alloc] at this; exact this
  clear hW q0 q1 q2 d0 d1 d2 d3 d4
  go_loopg [26] c (fun g cc wr => ∃ i ad cp, i ≤ c ∧ g = c - i ∧ cc = .int .i64 (i : Nat) ∧ Hid (Below w.heap.size w wr) ∧ Hid (wr.heap[w.heap.size]? = some (.cells #[.int .i64 0, .string ⟨#[]⟩, .slice none 0 0] 29 (0, 0))) ∧ Hid (wr.heap[w.heap.size + 1]? = some (.cells #[.int .i64 k, .string nm, .int .i64 (c : Nat), .int .i64 (k0 : Nat), .int .i64 (k1 : Nat)] 158 (0, 0))) ∧ Hid (wr.heap[w.heap.size + 1 + 1]? = some (.cells #[.int .i64 k, .string nm, .slice ad i cp] 29 (0, 0))) ∧ Hid (KO (w.heap.size + 3) wr ad cp (ks.take i)))
  case atStart => exact ⟨0, none, 0, by omega, by omega, rfl, HB0, HP0, HP1, HP2, KO.nil⟩
  case round =>
    obtain ⟨i, ad, cp, hile, hg, rfl, HB, H0, H1, H2, HKO⟩ := hrel; have HG : Hid (gk = c - i) := hg; clear hg; by_cases hlt : i < c
    · obtain ⟨j, hj⟩ : ∃ j, kids[i]? = some j := ⟨_, List.getElem?_eq_getElem (by have := HC.out; omega)⟩
      obtain ⟨g, hkg, hfg⟩ := HK.out i j hj; obtain ⟨k2, n2, ks2⟩ := g
      have e3 : wr.cell? ⟨w.heap.size + 1, 3 + i, none⟩ = some (.int .i64 (j : Nat)) := by
        obtain ⟨a0, a1, a2, a3, a4, -⟩ := blk5 H1.out
        rcases HKc.out i j hj with ⟨rfl, e⟩ | ⟨rfl, e⟩
        · rw [← e]; exact a3
        · rw [← e]; exact a4
      (have hltI : (i : Int) < (c : Int) := by omega); (have hlt2 : (i : Int) < 2 := by omega)
      have HCall : Hid (∀ W, Below wr.heap.size wr W → Calls Tryz.prog 147 #[.pointer (some ⟨bt, 0, none⟩), .int .i64 (j : Nat)] W _) := fun W hb => HIH.out W j (.mk k2 n2 ks2) ((HT.out.up HB.out).up hb) hfg (by
        have h1 := sizes_get hkg; have h2 := HMs.out; rw [Fm.size] at h2
        omega)
      have HTk : Hid (ks.take (i + 1) = ks.take i ++ [.mk k2 n2 ks2]) := by
        show _ = _; rw [List.take_add_one, hkg]; rfl
      (have hti : (ks.take i).length = i := by rw [List.length_take]; have := HLe.out; have := HC.out; omega); have HTi : Hid ((ks.take i).length = i) := hti; (have hjI : (j : Int) ≤ 1000000 := by have := HKj.out i j hj; omega)
      have HOB : Hid (∀ b, wr.heap.size ≤ b → w.heap.size + 3 ≤ b ∧ (Value.slice ad i cp).ownBlock ≠ some b) := fun b hb => by
        obtain ⟨cs, ho, -⟩ := HKO.out; rw [hti] at ho; have := lt_of_block H2.out; (exact ⟨by omega, fun e => by have := (ho.lt b e).2; omega⟩)
      obtain ⟨p0, p1, p2, p3, p4, p5⟩ := blk3 H2.out; have z2 := lt_of_block H2.out; have zw : w.heap.size + 1 < wr.heap.size := lt_of_block H1.out; obtain ⟨hi, hz0, hz1, hz2⟩ := HIo.out; clear hkg hfg hj hti; go_wp2_with fail
      go_region_law
        (first
         | (have hown := (HKO.out.up HB1.out).up ((Below.refl _ w1).alloc (Nat.le_refl _) (.cells #[.int .i64 k2, .string n2, .slice sl3 ks2.length cap3] 29 (0, 0)))
            obtain ⟨cs, hown, hlq⟩ := hown; rw [HTi.out] at hown hlq; (refine step_append_lies _ rfl _ _ 22 rfl (w.heap.size + 3) 29 i0 (.agg #[.int .i64 0, .string ⟨#[]⟩, .slice none 0 0]) 3 48 Tryz.underlying22 hi hz0 hz1 hz2 rfl (by decide) _ _ _ rfl hown ⟨w1.heap.size, 0, none⟩ 1 1 [.int .i64 k2, .string n2, .slice sl3 ks2.length cap3] rfl rfl ?_ ?_ (by omega) (by unfold maxLen; omega) (by omega) (by have := HB1.out.size; rw [World.size_alloc]; omega) _ rfl ?_)
            · intro j u hu
              rw [add_none, Nat.zero_add, blk_cell (blk_new w1 _)]; simpa using hu
            · intro u hu
              simp at hu
              rcases hu with rfl | rfl | rfl <;> rfl
            intro g3 cp3 w3 hown3 hgrow hat hlt3; have hgrow' : (w1.alloc (.cells #[.int .i64 k2, .string n2, .slice sl3 ks2.length cap3] 29 (0, 0))).grownBy w3 (Value.slice ad i cp).ownBlock := hgrow; have hat' : (Value.slice ad i cp).ownBlock = some g3 ∨ g3 = (w1.alloc (.cells #[.int .i64 k2, .string n2, .slice sl3 ks2.length cap3] 29 (0, 0))).heap.size := hat; clear hgrow hat; (obtain ⟨hbB, hko⟩ := KO.app HTi.out (by have := HB1.out.size; omega) hown hlq (HR3.out.move fun b hb1 hb2 => ⟨rfl, (HOB.out b (Nat.le_trans (Nat.le_refl _) hb2)).1, (HOB.out b hb2).2⟩) hown3 hgrow' hat'); have HKN : Hid (KO (w.heap.size + 3) w3 (some ⟨g3, 0, none⟩) cp3 (ks.take i ++ [.mk k2 n2 ks2])) := hko; have HBB : Hid (Below (w.heap.size + 3) w1 w3) := hbB; (have HS2 : Hid (w3.heap[w.heap.size + 1 + 1]? = some (.cells #[.int .i64 k, .string nm, .slice ad i cp] 29 (0, 0))) := (hbB.block (w.heap.size + 1 + 1) (by omega)).trans (below_keep HB1.out H2.out)); clear hgrow' hat' hown3 hown hlq hko hbB; obtain ⟨s0, s1, s2, s3, s4, s5⟩ := blk3 HS2.out
            have y3 := lt_of_block HS2.out)
         | (go_simp
            refine (HCall.out _ (Below.refl _ _).drew).mono ?_; rintro e w1 ⟨u, rfl, hrep3, hb1⟩; obtain ⟨sl3, cap3, rfl⟩ := slice_shape hrep3; have HB1 : Hid (Below wr.heap.size wr w1) := below_join (Below.refl _ wr).drew hb1; have HR3 : Hid (Rep w1 (wr.heap.size ≤ ·) (.mk k2 n2 ks2) (.agg #[.int .i64 k2, .string n2, .slice sl3 ks2.length cap3])) := hrep3; obtain ⟨t0, t1, t2, t3, t4, t5⟩ := blk3 (below_keep HB1.out H2.out); have y2 := lt_of_block (below_keep HB1.out H2.out); clear hb1 hrep3
            dsimp only)
         | fail)
      all_goals
        have t5 : (w3.setCell ⟨w.heap.size + 1 + 1, 2, none⟩ (.slice (some ⟨g3, 0, none⟩) (i + 1) cp3)).heap[w.heap.size + 1 + 1]? = some (.cells #[.int .i64 k, .string nm, .slice (some ⟨g3, 0, none⟩) (i + 1) cp3] 29 (0, 0)) := by
          rw [blk_set HS2.out]; rfl
        have T5 : Hid ((w3.setCell ⟨w.heap.size + 1 + 1, 2, none⟩ (.slice (some ⟨g3, 0, none⟩) (i + 1) cp3)).heap[w.heap.size + 1 + 1]? = some (.cells #[.int .i64 k, .string nm, .slice (some ⟨g3, 0, none⟩) (i + 1) cp3] 29 (0, 0))) := t5; have zz := HB.out.size; (have kb : ∀ b, b < w.heap.size + 2 → (w3.setCell ⟨w.heap.size + 1 + 1, 2, none⟩ (.slice (some ⟨g3, 0, none⟩) (i + 1) cp3)).heap[b]? = wr.heap[b]? := fun b hb => (blk_other _ (by omega)).trans ((HBB.out.block b (by omega)).trans (HB1.out.block b (by omega)))); (have T6 : Hid ((w3.setCell ⟨w.heap.size + 1 + 1, 2, none⟩ (.slice (some ⟨g3, 0, none⟩) (i + 1) cp3)).heap[w.heap.size]? = some (.cells #[.int .i64 0, .string ⟨#[]⟩, .slice none 0 0] 29 (0, 0))) := (kb _ (by omega)).trans H0.out); (have T7 : Hid ((w3.setCell ⟨w.heap.size + 1 + 1, 2, none⟩ (.slice (some ⟨g3, 0, none⟩) (i + 1) cp3)).heap[w.heap.size + 1]? = some (.cells #[.int .i64 k, .string nm, .int .i64 (c : Nat), .int .i64 (k0 : Nat), .int .i64 (k1 : Nat)] 158 (0, 0))) := (kb _ (by omega)).trans H1.out); (have BB : Hid (Below w.heap.size w (w3.setCell ⟨w.heap.size + 1 + 1, 2, none⟩ (.slice (some ⟨g3, 0, none⟩) (i + 1) cp3))) := ((HB.out.trans (HB1.out.mono zz)).trans (HBB.out.mono (by omega))).setCell (by simp; omega) _)
        have HKN2 : Hid (KO (w.heap.size + 3) (w3.setCell ⟨w.heap.size + 1 + 1, 2, none⟩ (.slice (some ⟨g3, 0, none⟩) (i + 1) cp3)) (some ⟨g3, 0, none⟩) cp3 (ks.take (i + 1))) := by
          show KO _ _ _ _ _; rw [HTk.out]; (exact HKN.out.same fun b hb _ => blk_other _ (by omega))
        clear t5 kb; go_wp2_with fail
        go_roundg (c - (i + 1))
        case measure => have := HG.out; omega
        case rel => exact ⟨i + 1, some ⟨g3, 0, none⟩, cp3, by omega, rfl, by go_num, BB, T6, T7, T5, HKN2⟩
    · have hge : ¬ (i : Int) < (c : Int) := by omega
      (have hie : i = c := by omega); subst hie; (have hkl : ks.length = i := by have h1 := HLe.out; have h2 := HC.out; omega)
      have HKE : Hid (KO (w.heap.size + 3) wr ad cp ks) := by
        have := HKO.out; (rw [List.take_of_length_le (by omega)] at this); exact this
      obtain ⟨p0, p1, p2, -⟩ := blk3 H2.out; obtain ⟨r0, r1, r2, r3, r4, r5⟩ := blk3 H0.out; have zr := lt_of_block H0.out; go_wp2_with fail; obtain ⟨Wf, hWf⟩ : ∃ Wf, Wf = (((wr.setCell ⟨w.heap.size, 0, none⟩ (.int .i64 k)).setCell ⟨w.heap.size, 1, none⟩ (.string nm)).setCell ⟨w.heap.size, 2, none⟩ (.slice ad i cp)) := ⟨_, rfl⟩; rw [← hWf]
      have hE : Wf.heap[w.heap.size]? = some (.cells #[.int .i64 k, .string nm, .slice ad i cp] 29 (0, 0)) := by
        rw [hWf, blk_set (blk_set (blk_set H0.out _) _) _]; rfl
      obtain ⟨m0, m1, m2, -⟩ := blk3 hE
      have hB : Below w.heap.size w Wf := by
        rw [hWf]; exact ((HB.out.setCell (p := ⟨w.heap.size, 0, none⟩) (Nat.le_refl _) _).setCell (p := ⟨w.heap.size, 1, none⟩) (Nat.le_refl _) _).setCell (p := ⟨w.heap.size, 2, none⟩) (Nat.le_refl _) _
      (refine bodyPost_ret (v := .agg #[.int .i64 k, .string nm, .slice ad i cp]) (by clear hWf; simp [results, Tryz.results147, go_sem, m0, m1, m2]) rfl ⟨_, rfl, ?_, hB⟩)
      have hko : KO (w.heap.size + 3) Wf ad cp ks := HKE.out.same fun b hb _ => by
        (rw [hWf, blk_other _ (by omega), blk_other _ (by omega), blk_other _ (by omega)])
      have := hko.rep k nm HNm.out; rw [hkl] at this; (exact this.move fun b _ hb => ⟨rfl, by omega⟩)
theorem form_any {Ph : Fm → Prop} {w : World} {T : Nat → Prop} {bt : Nat} {ps : List PartM} {fs : List Fm} (h : Tab Ph w T bt ps fs) {n : Nat} {f : Fm} (hf : fs[n]? = some f) : Calls Tryz.prog 147 #[.pointer (some ⟨bt, 0, none⟩), .int .i64 (n : Nat)] w fun e w' => ∃ v, e = .returned v ∧ Rep w' (w.heap.size ≤ ·) f v ∧ Below w.heap.size w w' := by
  have all : ∀ m, Forms Ph T bt ps fs m := fun m => by
    induction m with
    | zero => exact fun w n f _ _ h => absurd h (Nat.not_lt_zero _)
    | succ m ih => exact form_step m ih
  exact all (f.size + 1) w n f h hf (Nat.lt_succ_self _)
end Go.Proofs.YtalnljnincnbdacGreat
/- Walks: the names that speak against it. -/
namespace Go.Proofs.YtalnljnincnbdacGreat
open Go.RowKit Go.Sort

/-- The names at the left of a branch. -/
def cntN (ps : List PartM) (br : List Nat) : List (List UInt8) := br.filterMap fun i => match ps[i / 2]? with | some p => if p.kind = 1 ∧ itR i = false then some p.name.data.toList else none | none => none
theorem infoString : ∃ i, Tryz.prog.info? 9 = some i ∧ i.zero = some (.string ⟨#[]⟩) ∧ i.size = 1 ∧ i.bytes = 16 := by
  (obtain ⟨i, hi, h⟩ := Option.map_eq_some_iff.1 (show (Tryz.prog.info? 9).map (fun i => (i.zero, i.size, i.bytes)) = some (some (.string ⟨#[]⟩), 1, 16) by kernel_rfl)); simp only [Prod.mk.injEq] at h; exact ⟨i, hi, h.1, h.2.1, h.2.2⟩
theorem cntN_snoc {ps : List PartM} {br : List Nat} {i k : Nat} {p : PartM} (hk : br[k]? = some i) (hp : ps[i / 2]? = some p) : cntN ps (br.take (k + 1)) = cntN ps (br.take k) ++ if p.kind = 1 ∧ itR i = false then [p.name.data.toList] else [] := by
  unfold cntN; rw [List.take_add_one, hk, List.filterMap_append]
  congr 1
  simp only [Option.toList, List.filterMap_cons, List.filterMap_nil, hp]
  split <;> rename_i h
  · split at h
    · cases h
    · rename_i h2; rw [if_neg h2]
  · split at h
    · rename_i h2; rw [if_pos h2]; cases h; rfl
    · cases h
theorem sort_texts (base g cap : Nat) (ss : List (List UInt8)) (hl : ss.length ≤ 1000000) (w : World) (hown : w.ownsRow base 9 1 (.slice (some ⟨g, 0, none⟩) ss.length cap) ss.length (ss.map encStr)) :
    Calls Tryz.prog 102 #[.slice (some ⟨g, 0, none⟩) ss.length cap] w fun e w' => e = .returned (.tuple #[]) ∧ w'.ownsRow base 9 1 (.slice (some ⟨g, 0, none⟩) ss.length cap) ss.length ((srt ss).map encStr) ∧ w.grownBy w' (some g) := by
  rcases hown.2 with ⟨h, -⟩ | ⟨g', cap', cur, hv, hg, hh, h1, h2, h3, h4⟩
  · cases h
  · cases hv
    rw [Nat.mul_one] at h4; (refine (Tryz.slices_Sort_string g 0 cap ss w (holds_of_block hh h4) (lt_of_block hh) (by omega)).mono ?_); rintro e w' ⟨rfl, n, os, rfl⟩; exact ⟨rfl, ownsRow_sorted (List.length_mergeSort ..) hg hh h1 h2 h3, grownBy_sorted _⟩
theorem enc_str (s : ByteArray) : encStr s.data.toList = .string s := by
  show Value.string ⟨s.data.toList.toArray⟩ = _; rw [Array.toArray_toList]
set_option maxRecDepth 10000 in
set_option maxHeartbeats 8000000 in
theorem counter_any {x : Fx} {w : World} {M : Nat → Prop} {wh br : List Nat} {wk : Nat} {op : Bool} (h : FinSt x w M wh br wk op) (hbr : br.length ≤ 400000) (hlt : ∀ i ∈ br, i < x.L) :
    Calls Tryz.prog 51 #[.pointer (some ⟨x.bf, 0, none⟩)] w fun e w' => ∃ v, e = .returned v ∧ TL w' v (srt (cntN x.ps br)) ∧ Below w.heap.size w w' := by
  obtain ⟨i0, hi0, hz0, hz1, hz2⟩ := infoString; obtain ⟨adB, cB, hfin, hob, hmb⟩ := h.fin; have HS : Hid (FinSt x w M wh br wk op) := h; (have HIB : Hid (IRow (fun _ => True) w (.slice adB br.length cB) br) := owns_items hob fun _ _ => trivial); obtain ⟨q0, q1, q2, q3, q4, q5⟩ := blk6 hfin; have HFi : Hid (w.heap[x.bf]? = some (.cells #[.pointer (some ⟨x.bt, 0, none⟩), x.vW, .slice (some ⟨x.bw, 0, none⟩) x.L x.L, .slice adB br.length cB, .int .i64 (wk : Nat), .bool op] 92 (0, 0))) := hfin; have HLt : Hid (∀ i ∈ br, i < x.L) := hlt; have HBr : Hid (br.length ≤ 400000) := hbr; (have hbI : (br.length : Int) ≤ 400000 := by omega); (have hbc : (br.length : Int) ≤ (cB : Int) := by have := (row_caps hob).1; omega); have hL2 := h.l2; have hpl := h.plen; have HL : Hid (x.L = 2 * x.ps.length ∧ x.ps.length ≤ 100000) := ⟨hL2, hpl⟩; clear h hfin hob hmb hlt hbr hL2 hpl q1 q2 q4 q5
  go_enter Tryz.func51, Tryz.ntmps51
  go_wp2_with fail
  go_loopg [12, 3] br.length (fun g c s wr => ∃ k ad cap m, k ≤ br.length ∧ g = br.length - k ∧ c = .int .i64 (k : Nat) ∧ s = .slice ad m cap ∧ Hid (m = (cntN x.ps (br.take k)).length) ∧ Hid (m ≤ k) ∧ Hid (wr.ownsRow w.heap.size 9 1 (.slice ad m cap) m ((cntN x.ps (br.take k)).map encStr)) ∧ Hid (Below w.heap.size w wr))
  case atStart => exact ⟨0, none, 0, 0, by omega, by omega, rfl, rfl, by show _ = _; rfl, by show _ ≤ _; omega, ⟨rfl, Or.inl ⟨rfl, rfl⟩⟩, Below.refl _ _⟩
  case round =>
    obtain ⟨k, ad, cap, m, hk, hg, rfl, rfl, HM, HMk, HO, HB⟩ := hrel; have HG : Hid (gk = br.length - k) := hg; clear hg; by_cases hlt : k < br.length
    · obtain ⟨t, ht⟩ : ∃ t, br[k]? = some t := ⟨_, List.getElem?_eq_getElem hlt⟩
      obtain ⟨b, off, rfl, -, hcell⟩ := HIB.out.some' ht; have g0 := (HB.out.cell (p := ⟨b, off + k, none⟩) (lt_of_cell hcell)).trans hcell; have htL := HLt.out t (List.mem_of_getElem? ht); (obtain ⟨⟨pk, pm, pks⟩, hp⟩ : ∃ p, x.ps[t / 2]? = some p := ⟨_, List.getElem?_eq_getElem (by have := HL.out; omega)⟩); (have HSn : Hid (cntN x.ps (br.take (k + 1)) = cntN x.ps (br.take k) ++ if pk = 1 ∧ itR t = false then [pm.data.toList] else []) := cntN_snoc ht hp); (have ht3 : t ≤ 3000000 := by have := HL.out; omega); (have HP : Hid (∀ W, Calls Tryz.prog 100 #[.int .i64 (t : Nat)] W _) := fun W => part_item t ht3 W); (have HR : Hid (∀ W, Calls Tryz.prog 101 #[.int .i64 (t : Nat)] W _) := fun W => isRight_item t ht3 W); (have HT : Hid (∀ W, Below w.heap.size w W → Calls Tryz.prog 99 #[.pointer (some ⟨x.bt, 0, none⟩), .int .i64 ((t / 2 : Nat) : Int)] W fun e w' => e = .returned (.agg #[.int .i64 pk, .string pm, .int .i64 (pks.length : Nat), .int .i64 ((PartM.mk pk pm pks).k0 : Nat), .int .i64 ((PartM.mk pk pm pks).k1 : Nat)]) ∧ Below W.heap.size W w') := fun W hb => ppart_any W x.T x.bt x.ps _ (HS.out.tab.up hb).tab (t / 2) _ hp); have HFr : Hid (wr.heap[x.bf]? = _) := below_keep HB.out HFi.out; obtain ⟨b0, -⟩ := blk6 HFr.out; have zbf := lt_of_block HFr.out; (have nb1 : ¬ x.bf = wr.heap.size := by omega); (have nb2 : ¬ wr.heap.size = x.bf := by omega); (have hltI : (k : Int) < (br.length : Int) := by omega); (have hltc : (k : Int) < (cB : Int) := by omega); generalize (PartM.mk pk pm pks).k0 = a0 at *; generalize (PartM.mk pk pm pks).k1 = a1 at *; generalize itR t = rt at *; clear hcell ht hp htL; go_wp2_with fail
      go_region_held3 (fun w' => w'.cell? ⟨x.bf, 0, none⟩ = some (.pointer (some ⟨x.bt, 0, none⟩))) (go_keep)
        (first
         | (go_at_call 100
            refine (HP.out _).mono ?_; rintro e w1 ⟨rfl, hw1⟩
            subst hw1)
         | (go_at_call 99
            refine (HT.out _ HB.out.drew).mono ?_; rintro e w2 ⟨rfl, hb2⟩; have HB2 : Hid (Below wr.heap.size wr w2) := below_join (Below.refl _ wr).drew hb2; obtain ⟨i0', i1', i2', -⟩ := blk6 (below_keep HB2.out HFr.out)
            clear hb2)
         | (go_at_call 99
            refine (HT.out _ (below_more HB.out _).drew).mono ?_; rintro e w2 ⟨rfl, hb2⟩; have HB2 : Hid (Below wr.heap.size wr w2) := below_join (below_more (Below.refl _ wr) _).drew hb2; have HX2 : Hid (w2.heap[wr.heap.size]? = some (.cells #[.int .i64 0, .string ⟨#[]⟩, .int .i64 0, .int .i64 0, .int .i64 0] 158 (0, 0))) := below_keep hb2 (blk_new wr _); obtain ⟨x0, x1, x2, x3, x4, y0, y1, y2, y3, y4⟩ := blk5 HX2.out; have zx := lt_of_block HX2.out; obtain ⟨i0', i1', i2', -⟩ := blk6 (below_keep HB2.out HFr.out)
            clear hb2)
         | fail)
      all_goals
        first
          | (obtain ⟨W3, hW3⟩ : ∃ W3, W3 = w2.alloc (.cells #[.int .i64 pk, .string pm, .int .i64 (pks.length : Nat), .int .i64 (a0 : Nat), .int .i64 (a1 : Nat)] 158 (0, 0)) := ⟨_, rfl⟩
             rw [← hW3]; (have HX3 : Hid (W3.heap[w2.heap.size]? = some (.cells #[.int .i64 pk, .string pm, .int .i64 (pks.length : Nat), .int .i64 (a0 : Nat), .int .i64 (a1 : Nat)] 158 (0, 0))) := by rw [hW3]; exact blk_new w2 _); (have HB3 : Hid (Below wr.heap.size wr W3) := by rw [hW3]; exact below_more HB2.out _); obtain ⟨bx, hbx⟩ : ∃ bx, bx = w2.heap.size := ⟨_, rfl⟩; rw [← hbx] at HX3 ⊢
             clear hW3 hbx)
          | (obtain ⟨W3, hW3⟩ : ∃ W3, W3 = (((((w2.setCell ⟨wr.heap.size, 0, none⟩ (.int .i64 pk)).setCell ⟨wr.heap.size, 1, none⟩ (.string pm)).setCell ⟨wr.heap.size, 2, none⟩ (.int .i64 (pks.length : Nat))).setCell ⟨wr.heap.size, 3, none⟩ (.int .i64 (a0 : Nat))).setCell ⟨wr.heap.size, 4, none⟩ (.int .i64 (a1 : Nat))) := ⟨_, rfl⟩
             rw [← hW3]; (have HX3 : Hid (W3.heap[wr.heap.size]? = some (.cells #[.int .i64 pk, .string pm, .int .i64 (pks.length : Nat), .int .i64 (a0 : Nat), .int .i64 (a1 : Nat)] 158 (0, 0))) := by rw [hW3, blk_set (blk_set (blk_set (blk_set (blk_set HX2.out _) _) _) _) _]; rfl); (have HB3 : Hid (Below wr.heap.size wr W3) := by rw [hW3]; exact ((((HB2.out.setCell (p := ⟨wr.heap.size, 0, none⟩) (Nat.le_refl _) _).setCell (p := ⟨wr.heap.size, 1, none⟩) (Nat.le_refl _) _).setCell (p := ⟨wr.heap.size, 2, none⟩) (Nat.le_refl _) _).setCell (p := ⟨wr.heap.size, 3, none⟩) (Nat.le_refl _) _).setCell (p := ⟨wr.heap.size, 4, none⟩) (Nat.le_refl _) _); obtain ⟨bx, hbx⟩ : ∃ bx, bx = wr.heap.size := ⟨_, rfl⟩; rw [← hbx] at HX3 ⊢
             clear hW3 hbx)
        obtain ⟨g0', g1', g2', g3', g4', -⟩ := blk5 HX3.out; have zbx := lt_of_block HX3.out; have HB03 : Hid (Below w.heap.size w W3) := below_join HB.out HB3.out; have HO3 : Hid (W3.ownsRow w.heap.size 9 1 (.slice ad m cap) m ((cntN x.ps (br.take k)).map encStr)) := owns_up HO.out HB3.out
        have hcases : (pk = 1 ∧ rt = false) ∨ (¬ pk = 1) ∨ (pk = 1 ∧ rt = true) := by
          rcases Classical.em (pk = 1) with h1 | h1
          · cases rt
            · exact Or.inl ⟨h1, rfl⟩
            · exact Or.inr (Or.inr ⟨h1, rfl⟩)
          · exact Or.inr (Or.inl h1)
        rcases hcases with ⟨rfl, rfl⟩ | h1 | ⟨rfl, rfl⟩
        · have HE : Hid (cntN x.ps (br.take (k + 1)) = cntN x.ps (br.take k) ++ [pm.data.toList]) := by show _ = _; rw [HSn.out, if_pos ⟨rfl, rfl⟩]
          have hown := owns_up HO3.out (show Below W3.heap.size W3 _ from (Below.refl _ W3).alloc (Nat.le_refl _) (.cells #[.string pm] 9 (0, 0))); have HOw : Hid ((W3.alloc (.cells #[.string pm] 9 (0, 0))).ownsRow w.heap.size 9 1 (.slice ad m cap) m ((cntN x.ps (br.take k)).map encStr)) := hown
          have HEm : Hid ((cntN x.ps (br.take (k + 1))).map encStr = (cntN x.ps (br.take k)).map encStr ++ [.string pm]) := by
            show _ = _; rw [HE.out, List.map_append, List.map_cons, List.map_nil, enc_str]
          clear hown HSn; go_wp2_with fail; refine (HR.out _).mono ?_; rintro e w4 ⟨rfl, hw4⟩; have hw5 := hw4.symm; clear hw4; subst hw5
          go_wp2_with (first
            | (at_builtin
               (refine wpList_append_lies _ rfl _ _ 33 rfl w.heap.size 9 i0 (.string ⟨#[]⟩) 1 16 Tryz.underlying33 hi0 hz0 hz1 hz2 rfl (by decide) _ _ _ rfl HOw.out ⟨W3.heap.size, 0, none⟩ 1 1 [.string pm] rfl rfl ?_ ?_ (by omega) ?_ ?_ ?_ _ rfl ?_)
               · exact World.news_of_block (blk_new W3 _)
               · intro u hu
                 simp at hu; subst hu; rfl
               · have h1 := HMk.out
                 have h2 := HBr.out; unfold maxLen; omega
               · have h1 := HMk.out
                 have h2 := HBr.out; omega
               · have := HB03.out.size
                 rw [World.size_alloc]; omega
               intro g5 c5 w5 hown5 hgrow hat5 hlt5
               have HO5 : Hid (w5.ownsRow w.heap.size 9 1 (.slice (some ⟨g5, 0, none⟩) (m + 1) c5) (m + 1) ((cntN x.ps (br.take (k + 1))).map encStr)) := by
                 rw [HEm.out]; exact hown5
               have hk5 : ∀ b, b < w.heap.size → w5.heap[b]? = w.heap[b]? := fun b hb => by
                 have h1 := HB03.out.size; (refine (hgrow.block b (by rw [World.size_alloc]; omega) (fun e => ?_)).trans ((Below.heap_alloc _ _ _ (by omega)).trans (HB03.out.block b hb))); have := (HOw.out.lt b e.symm).1; omega
               (have HB5 : Hid (Below w.heap.size w w5) := ⟨hgrow.os.trans HB03.out.os, hgrow.tape.trans HB03.out.tape, hgrow.output.trans HB03.out.output, by have h1 := HB03.out.size; have h2 := hgrow.size; rw [World.size_alloc] at h2; omega, hk5⟩)
               clear hown5 hgrow hat5 hk5)
            | fail)
          go_roundg (br.length - (k + 1))
          case measure => have := HG.out; omega
          case rel =>
            (refine ⟨k + 1, some ⟨g5, 0, none⟩, c5, m + 1, by omega, rfl, by go_num, rfl, ?_, ?_, HO5, HB5⟩)
            · show _ = _
              rw [HE.out, List.length_append, ← HM.out]; rfl
            · have := HMk.out
              show _ ≤ _; omega
        · have HE : Hid (cntN x.ps (br.take (k + 1)) = cntN x.ps (br.take k)) := by show _ = _; rw [HSn.out, if_neg (fun h => h1 h.1), List.append_nil]
          clear HSn; go_wp2_with fail
          go_roundg (br.length - (k + 1))
          case measure => have := HG.out; omega
          case rel =>
            (refine ⟨k + 1, ad, cap, m, by omega, rfl, by go_num, rfl, ?_, ?_, ?_, HB03⟩)
            · rw [HE.out]; exact HM
            · have := HMk.out
              show _ ≤ _; omega
            · rw [HE.out]; exact HO3
        · have HE : Hid (cntN x.ps (br.take (k + 1)) = cntN x.ps (br.take k)) := by show _ = _; rw [HSn.out, if_neg (fun h => by cases h.2), List.append_nil]
          clear HSn; go_wp2_with fail; refine (HR.out _).mono ?_; rintro e w4 ⟨rfl, hw4⟩; have hw5 := hw4.symm; clear hw4; subst hw5; go_wp2_with fail
          go_roundg (br.length - (k + 1))
          case measure => have := HG.out; omega
          case rel =>
            (refine ⟨k + 1, ad, cap, m, by omega, rfl, by go_num, rfl, ?_, ?_, ?_, ?_⟩)
            · rw [HE.out]; exact HM
            · have := HMk.out
              show _ ≤ _; omega
            · rw [HE.out]; exact HO3
            · exact HB03
    · have hge : ¬ (k : Int) < (br.length : Int) := by omega
      (have hke : k = br.length := by omega); subst hke; rw [List.take_length] at HM HO; obtain ⟨ss, hss⟩ : ∃ ss, ss = cntN x.ps br := ⟨_, rfl⟩; have HSs : Hid (ss = cntN x.ps br) := hss; rw [← hss] at HM HO; clear hss; have hm := HM.out; subst hm; by_cases hne : ss = []
      · rw [hne] at HO
        (have hsn : ∀ ad cap W, Calls Tryz.prog 102 #[.slice ad 0 cap] W fun e w' => e = .returned (.tuple #[]) ∧ w' = W := fun ad cap W => Tryz.slices_Sort_string_none ad cap W); have HSo : Hid (Calls Tryz.prog 102 #[.slice ad 0 cap] wr _) := hsn ad cap wr; (have hl0 : ss.length = 0 := by rw [hne]; rfl); simp only [List.length_nil] at HO; rw [hl0]; clear hsn; go_wp2_with fail; refine HSo.out.mono ?_; rintro e w2 ⟨rfl, rfl⟩; go_wp2_with fail; go_ret; have hcaps := row_caps HO.out; rw [← HSs.out, hne]; have hs0 : srt [] = [] := List.length_eq_zero_iff.1 (List.length_mergeSort ..); rw [hs0]; (exact ⟨_, rfl, ⟨ad, cap, rfl, hcaps.1, hcaps.2, fun h => absurd rfl h⟩, HB.out⟩)
      · obtain ⟨g, rfl⟩ : ∃ g, ad = some ⟨g, 0, none⟩ := by
          rcases HO.out.2 with ⟨-, h0⟩ | ⟨g, cap', cur, hv, -⟩
          · exact absurd (List.length_eq_zero_iff.1 h0) hne
          · simp only [Value.slice.injEq, true_and] at hv
            exact ⟨g, hv.1⟩
        (have HSo : Hid (Calls Tryz.prog 102 #[.slice (some ⟨g, 0, none⟩) ss.length cap] wr _) := sort_texts w.heap.size g cap ss (by have h1 := HMk.out; have h2 := HBr.out; omega) wr HO.out); go_wp2_with fail; refine HSo.out.mono ?_; rintro e w2 ⟨rfl, hown2, hgr⟩; have HO2 : Hid (w2.ownsRow w.heap.size 9 1 (.slice (some ⟨g, 0, none⟩) ss.length cap) ss.length ((srt ss).map encStr)) := hown2; (have HB2 : Hid (Below w.heap.size w w2) := ⟨hgr.os.trans HB.out.os, hgr.tape.trans HB.out.tape, hgr.output.trans HB.out.output, Nat.le_trans HB.out.size hgr.size, fun b hb => (hgr.block b (Nat.lt_of_lt_of_le hb HB.out.size) (fun e => by have h1 := (HO.out.lt g rfl).1; cases e; omega)).trans (HB.out.block b hb)⟩); clear hown2 hgr; go_wp2_with fail; go_ret; have hsl : (srt ss).length = ss.length := List.length_mergeSort ..; have hcaps := row_caps HO2.out; rw [← HSs.out]; (refine ⟨_, rfl, ⟨some ⟨g, 0, none⟩, cap, by rw [hsl]; rfl, by omega, hcaps.2, fun _ => ⟨g, rfl, fun j t ht => ?_⟩⟩, HB2.out⟩); obtain ⟨g', e, hc⟩ := row_cells HO2.out (List.length_pos_iff.2 hne)
        cases e
        (have := hc j (encStr t) (by rw [List.getElem?_map, ht]; rfl)); rw [add_none, Nat.zero_add] at this; exact this
end Go.Proofs.YtalnljnincnbdacGreat
/- The writer of proofs in memory; walks: leavesBehind, hasRoom. -/
namespace Go.Proofs.YtalnljnincnbdacGreat
open Go.RowKit

/-- The writer: lean or not, how many steps and nodes it has counted. -/
structure WrSt (x : Fx) (w : World) (bz : Nat) (lean : Bool) (st nd : Nat) : Prop where
  tab : Tab x.Ph w x.T x.bt x.ps x.fs
  ways : WaysR x.K w x.vW x.ps
  blk : w.heap[bz]? = some (.cells #[.pointer (some ⟨x.bt, 0, none⟩), x.vW, .bool lean, .int .i64 (st : Nat), .int .i64 (nd : Nat)] 162 (0, 0))
  tk : ∀ b, x.T b → x.K b
  kz : ∀ b, x.K b → b ≠ bz ∧ b < w.heap.size
  l2 : x.L = 2 * x.ps.length
  plen : x.ps.length ≤ 100000
theorem WrSt.next {x : Fx} {w w' : World} {bz : Nat} {lean : Bool} {st nd : Nat} (h : WrSt x w bz lean st nd) (hb : ∀ b, b < w.heap.size → x.K b ∨ b = bz → w'.heap[b]? = w.heap[b]?) (hs : w.heap.size ≤ w'.heap.size) : WrSt x w' bz lean st nd :=
  ⟨h.tab.same (fun b ht hl => hb b hl (Or.inl (h.tk b ht))) hs, h.ways.move fun b hl hp => ⟨hb b hl (Or.inl hp), hp⟩, (hb bz (lt_of_block h.blk) (Or.inr rfl)).trans h.blk, h.tk, fun b hk => ⟨(h.kz b hk).1, Nat.lt_of_lt_of_le (h.kz b hk).2 hs⟩, h.l2, h.plen⟩
theorem WrSt.up {x : Fx} {w w' : World} {bz : Nat} {lean : Bool} {st nd : Nat} (h : WrSt x w bz lean st nd) (hb : Below w.heap.size w w') : WrSt x w' bz lean st nd := h.next (fun b hl _ => hb.block b hl) hb.size
theorem WrSt.steps {x : Fx} {w : World} {bz : Nat} {lean : Bool} {st nd : Nat} (h : WrSt x w bz lean st nd) (n : Nat) : WrSt x (w.setCell ⟨bz, 3, none⟩ (.int .i64 (n : Nat))) bz lean n nd :=
  ⟨h.tab.same (fun b ht _ => blk_other _ (h.kz b (h.tk b ht)).1) (by rw [size_set]; exact Nat.le_refl _), h.ways.move fun b _ hp => ⟨blk_other _ (h.kz b hp).1, hp⟩, by rw [blk_set h.blk]; rfl, h.tk, fun b hk => by rw [size_set]; exact h.kz b hk, h.l2, h.plen⟩
theorem WrSt.nodes {x : Fx} {w : World} {bz : Nat} {lean : Bool} {st nd : Nat} (h : WrSt x w bz lean st nd) (n : Nat) : WrSt x (w.setCell ⟨bz, 4, none⟩ (.int .i64 (n : Nat))) bz lean st n :=
  ⟨h.tab.same (fun b ht _ => blk_other _ (h.kz b (h.tk b ht)).1) (by rw [size_set]; exact Nat.le_refl _), h.ways.move fun b _ hp => ⟨blk_other _ (h.kz b hp).1, hp⟩, by rw [blk_set h.blk]; rfl, h.tk, fun b hk => by rw [size_set]; exact h.kz b hk, h.l2, h.plen⟩

set_option maxRecDepth 10000 in
set_option maxHeartbeats 4000000 in
theorem leaves_any {x : Fx} {w : World} {bz : Nat} {lean : Bool} {st nd : Nat} (h : WrSt x w bz lean st nd) (a : ByteArray) (i : Nat) (an : Option Addr) (nn cn : Nat) (sl : Option Addr) (nk cp : Nat) (ae : Option Addr) (ne ce : Nat) (hn : nn ≤ 10000000) (he : ne ≤ 10000000) (hk : nk ≤ 10000000) :
    Calls Tryz.prog 145 #[.pointer (some ⟨bz, 0, none⟩), .agg #[.string a, .int .i64 (i : Nat), .slice an nn cn, .slice sl nk cp], .slice ae ne ce] w fun e w' => e = .returned (.bool (lean && decide (0 < nk) && decide (nn < ne))) ∧ Below w.heap.size w w' := by
  obtain ⟨q0, q1, q2, q3, q4, -⟩ := blk5 h.blk; have zb := lt_of_block h.blk; (have zb1 : bz < w.heap.size + 1 := by omega); (have hnI : (nn : Int) ≤ 10000000 := by omega); (have heI : (ne : Int) ≤ 10000000 := by omega); (have hkI : (nk : Int) ≤ 10000000 := by omega); clear h
  cases lean
  · go_enter Tryz.func145, Tryz.ntmps145
    go_wp2_with fail; go_ret; exact ⟨rfl, below_more (Below.refl _ w) _⟩
  · rcases Nat.eq_zero_or_pos nk with h0 | h0
    · subst h0
      go_enter Tryz.func145, Tryz.ntmps145
      go_wp2_with fail; go_ret; exact ⟨rfl, below_more (Below.refl _ w) _⟩
    · have h0I : (0 : Int) < (nk : Int) := by omega
      rcases Nat.lt_or_ge nn ne with h1 | h1
      · have h1I : (nn : Int) < (ne : Int) := by omega
        go_enter Tryz.func145, Tryz.ntmps145
        go_wp2_with fail; go_ret; (exact ⟨by simp [h0, h1], below_more (Below.refl _ w) _⟩)
      · have h1I : ¬ (nn : Int) < (ne : Int) := by omega
        go_enter Tryz.func145, Tryz.ntmps145
        go_wp2_with fail; go_ret; (exact ⟨by simp; omega, below_more (Below.refl _ w) _⟩)
end Go.Proofs.YtalnljnincnbdacGreat
