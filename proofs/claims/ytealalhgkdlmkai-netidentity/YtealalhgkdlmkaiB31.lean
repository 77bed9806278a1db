/- Texts of one proof, one behind the other: NI6, NI7. -/
import Derived.Test.YtealalhgkdlmkaiB29
import Derived.Deep.RegionLaw
import Derived.Test.YtealalhgkdlmkaiB30
/- Walks: Dual. -/
namespace Go.Proofs.Ytealalhgkdlmkai
open Go.RowKit Go.Sort

def DualS (m : Nat) : Prop := ∀ (f : Lm) (v : Value) (w : World), f.size < m → LFine f → LRep w f v →
  Calls Try.prog 30 #[v] w fun e w' => ∃ u, e = .returned u ∧ LRp w' (w.heap.size ≤ ·) (dualF f) u ∧ Below w.heap.size w w'
theorem three_at {w : World} {o0 o1 : Obj} {x0 x1 x2 x3 : Value} {T : TypeId} : ((((w.alloc o0).alloc o1).alloc (.cells #[x0, x1, x2, x3] T (0, 0)))).heap[w.heap.size + 1 + 1]? = some (.cells #[x0, x1, x2, x3] T (0, 0)) := by
  have := blk_new ((w.alloc o0).alloc o1) (.cells #[x0, x1, x2, x3] T (0, 0)); simpa using this
set_option maxHeartbeats 8000000 in
theorem dual_step (m : Nat) (ih : DualS m) : DualS (m + 1) := by
  intro f v w hm hfine hrep; obtain ⟨k, n, g, ks⟩ := f; obtain ⟨sl, cap, rfl, hx1, hx2, hx3, hx4⟩ := LRep.def.1 hrep; have HX : Hid (ks ≠ [] → ∃ b off, sl = some ⟨b, off, none⟩ ∧ LReps w b off ks) := hx4; have HF : Hid (LFine (.mk k n g ks)) := hfine; (have hl2 : ks.length ≤ 2 := by cases hfine <;> simp)
  have hkr : k = 1 ∨ k = 2 ∨ k = 3 := by
    cases hfine with
    | atom _ _ _ => exact Or.inl rfl
    | two _ _ _ h _ _ => exact Or.inr h
  clear hx4 hfine; obtain ⟨i0, hi, hz0, hz1, hz2⟩ := infoLm; (have hlenI : ((ks.length : Nat) : Int) ≤ 2 := by omega); have HIo : Hid (Try.prog.info? 52 = some i0 ∧ i0.zero = some (.agg #[.int .i64 0, .string ⟨#[]⟩, .bool false, .slice none 0 0]) ∧ i0.size = 4 ∧ i0.bytes = 56) := ⟨hi, hz0, hz1, hz2⟩; clear hi hz0 hz1 hz2; by_cases h1 : k = 1
  · subst h1
    obtain ⟨kk, hkk⟩ : ∃ kk : Int, kk = 1 := ⟨_, rfl⟩; obtain ⟨gg, hgg⟩ : ∃ gg : Bool, gg = !g := ⟨_, rfl⟩; (have HD : Hid (dualF (.mk 1 n g ks) = .mk kk n gg (dualL ks)) := by show _ = _; rw [dualF, if_pos rfl, if_pos rfl, hkk, hgg]); have HKK : Hid (kk = 1 ∧ gg = !g) := ⟨hkk, hgg⟩; clear hkk hgg hkr
    go_enter Try.func30, Try.ntmps30
    go_wp2_with fail
    go_loopg [4] ks.length (fun gz c wr => ∃ i ad cp, i ≤ ks.length ∧ gz = ks.length - i ∧ c = .int .i64 (i : Nat) ∧ Below w.heap.size w wr ∧ wr.heap[w.heap.size]? = some (.cells #[.int .i64 1, .string n, .bool g, .slice sl ks.length cap] 52 (0, 0)) ∧ wr.heap[w.heap.size + 1]? = some (.cells #[.int .i64 0, .string ⟨#[]⟩, .bool false, .slice none 0 0] 52 (0, 0)) ∧ wr.heap[w.heap.size + 1 + 1]? = some (.cells #[.int .i64 kk, .string n, .bool gg, .slice ad i cp] 52 (0, 0)) ∧ Hid (KD (w.heap.size + 3) wr ad cp (dualL (ks.take i))))
    case atStart =>
      (refine ⟨0, none, 0, by omega, by omega, rfl, (((Below.refl _ w).alloc (Nat.le_refl _) _).alloc (by simp) _).alloc (by simp; omega) _, two_new.1, two_new.2, ?_, KD.nil⟩); rw [HKK.out.1, HKK.out.2]; exact three_at
    case round =>
      obtain ⟨i, ad, cp, hile, hg, rfl, hbr, q0, q1, q2, HK⟩ := hrel; have HG : Hid (gk = ks.length - i) := hg; clear hg; obtain ⟨e0, e1, e2, e3, -⟩ := blk4N q0; obtain ⟨p0, p1, p2, p3, p4, p5, p6, p7⟩ := blk4N q2; have z0 := lt_of_block q0; have z2 := lt_of_block q2; have zz := hbr.size; by_cases hlt : i < ks.length
      · obtain ⟨⟨k2, n2, g2, ks2⟩, hki⟩ : ∃ f, ks[i]? = some f := ⟨_, List.getElem?_eq_getElem hlt⟩
        (have hltI : (i : Int) < (ks.length : Int) := by omega); (obtain ⟨b, off, hsl, hrs⟩ := HX.out (fun e => by rw [e] at hlt; simp at hlt)); subst hsl; obtain ⟨sl2, cap2, g0, g1, gb, g3, hrep2⟩ := (hrs.up hbr).at i k2 n2 g2 ks2 hki; obtain ⟨⟨k3, n3, g4, ks3⟩, hdk⟩ : ∃ d, dualF (.mk k2 n2 g2 ks2) = d := ⟨_, rfl⟩; (have hsz : (Lm.mk k2 n2 g2 ks2).size < m := by have := lsizes_get hki; rw [Lm.size] at hm; omega); (have HIH : Hid (∀ wx, LRep wx (.mk k2 n2 g2 ks2) (.agg #[.int .i64 k2, .string n2, .bool g2, .slice sl2 ks2.length cap2]) → Calls Try.prog 30 #[.agg #[.int .i64 k2, .string n2, .bool g2, .slice sl2 ks2.length cap2]] wx fun e w' => ∃ u, e = .returned u ∧ LRp w' (wx.heap.size ≤ ·) (.mk k3 n3 g4 ks3) u ∧ Below wx.heap.size wx w') := fun wx h => by rw [← hdk]; exact ih _ _ wx hsz (HF.out.kids _ (List.mem_of_getElem? hki)) h)
        have zb0 : b < w.heap.size := by
          obtain ⟨c0, _, _, _, h0, _⟩ := hrs.get i _ hki; exact lt_of_cell h0
        (have hlc : ((i : Nat) : Int) < ((cap : Nat) : Int) := by omega); have zb := lt_of_cell g0; simp only at zb
        have HT : Hid (dualL (ks.take (i + 1)) = dualL (ks.take i) ++ [.mk k3 n3 g4 ks3]) := by
          show _ = _; rw [List.take_add_one, hki, Option.toList_some, dualL_app, dualL, dualL, hdk]
        (have hti : (dualL (ks.take i)).length = i := by rw [dualL_len, List.length_take]; omega)
        have HOB : Hid (∀ b, wr.heap.size ≤ b → w.heap.size + 3 ≤ b ∧ (Value.slice ad i cp).ownBlock ≠ some b) := fun b hb => by
          obtain ⟨cs, ho, -⟩ := HK.out; rw [hti] at ho; (exact ⟨by omega, fun e => by have := (ho.lt b e).2; omega⟩)
        clear hki hrs hrep HX hdk; obtain ⟨hi, hz0, hz1, hz2⟩ := HIo.out; go_wp2_with fail
        go_region_law
          (first
           | (have hown := (HK.out.up hb1').up ((Below.refl _ w1).alloc (Nat.le_refl _) (.cells #[.int .i64 k3, .string n3, .bool g4, .slice sl3 ks3.length cap3] 52 (0, 0)))
              obtain ⟨cs, hown, hlq⟩ := hown; rw [hti] at hown hlq; (refine step_append_lies _ rfl _ _ 22 rfl (w.heap.size + 3) 52 i0 (.agg #[.int .i64 0, .string ⟨#[]⟩, .bool false, .slice none 0 0]) 4 56 Try.underlying22 hi hz0 hz1 hz2 rfl (by decide) _ _ _ rfl hown ⟨w1.heap.size, 0, none⟩ 1 1 [.int .i64 k3, .string n3, .bool g4, .slice sl3 ks3.length cap3] rfl rfl ?_ ?_ (by omega) (by unfold maxLen; omega) (by omega) (by simp; omega) _ rfl ?_)
              · intro j u hu
                rw [add_none, Nat.zero_add, blk_cell (blk_new w1 _)]; simpa using hu
              · intro u hu
                simp at hu
                rcases hu with rfl | rfl | rfl | rfl <;> rfl
              intro g9 cp3 w3 hown3 hgrow hat hlt3; have hgrow' : (w1.alloc (.cells #[.int .i64 k3, .string n3, .bool g4, .slice sl3 ks3.length cap3] 52 (0, 0))).grownBy w3 (Value.slice ad i cp).ownBlock := hgrow; have hat' : (Value.slice ad i cp).ownBlock = some g9 ∨ g9 = (w1.alloc (.cells #[.int .i64 k3, .string n3, .bool g4, .slice sl3 ks3.length cap3] 52 (0, 0))).heap.size := hat; clear hgrow hat; (obtain ⟨hbB, hko⟩ := KD.app hti (by omega) hown hlq (LRp.move (fun b hb1 hb2 => ⟨rfl, (HOB.out b hb2).1, (HOB.out b hb2).2⟩) _ _ hrep3) hown3 hgrow' hat'); have HKO : Hid (KD (w.heap.size + 3) w3 (some ⟨g9, 0, none⟩) cp3 (dualL (ks.take i) ++ [.mk k3 n3 g4 ks3])) := hko; clear hgrow' hat' hown3 hown hlq hko c1 c2 c3 c4 c5; (have t1 := (hbB.cell (p := ⟨w.heap.size, 3, none⟩) (show w.heap.size < w.heap.size + 3 by omega)).trans (cell_of_block (hb1'.block _ z0) |>.trans e3)); (have t2 := (hbB.cell (p := ⟨b, off + i * 4, none⟩) (show b < w.heap.size + 3 by omega)).trans (cell_of_block (hb1'.block _ zb) |>.trans g0)); (have t3 := (hbB.cell (p := ⟨b, off + i * 4 + 1, none⟩) (show b < w.heap.size + 3 by omega)).trans (cell_of_block (hb1'.block _ zb) |>.trans g1)); (have t4 := (hbB.cell (p := ⟨b, off + i * 4 + 2, none⟩) (show b < w.heap.size + 3 by omega)).trans (cell_of_block (hb1'.block _ zb) |>.trans gb)); (have t8 := (hbB.cell (p := ⟨b, off + i * 4 + 3, none⟩) (show b < w.heap.size + 3 by omega)).trans (cell_of_block (hb1'.block _ zb) |>.trans g3)); (have t0 := (hbB.block (w.heap.size + 1 + 1) (by omega)).trans r2); clear s0 s1 s2 s3 s4 s5 s6 s7; obtain ⟨s0, s1, s2, s3, s4, s5, s6, s7⟩ := blk4N t0
              have y3 := hbB.size)
           | (go_simp
              go_at_call 30
              refine (HIH.out _ (hrep2.up (Below.refl _ _).drew)).mono ?_; rintro e w1 ⟨u, rfl, hrep3, hb1⟩; obtain ⟨sl3, cap3, rfl, -⟩ := LRp.def.1 hrep3; have hb1' : Below wr.heap.size wr w1 := (Below.refl _ wr).drew.trans hb1; clear hb1; have c1 := (hb1'.cell (p := ⟨w.heap.size, 3, none⟩) z0).trans e3; have c2 := (hb1'.cell (p := ⟨b, off + i * 4, none⟩) zb).trans g0; have c3 := (hb1'.cell (p := ⟨b, off + i * 4 + 1, none⟩) zb).trans g1; have c4 := (hb1'.cell (p := ⟨b, off + i * 4 + 2, none⟩) zb).trans gb; have c5 := (hb1'.cell (p := ⟨b, off + i * 4 + 3, none⟩) zb).trans g3; have r2 := below_keep hb1' q2; obtain ⟨s0, s1, s2, s3, s4, s5, s6, s7⟩ := blk4N r2; have y0 : w.heap.size < w1.heap.size := Nat.lt_of_lt_of_le z0 hb1'.size; have yb : b < w1.heap.size := Nat.lt_of_lt_of_le zb hb1'.size; have y2 : w.heap.size + 1 + 1 < w1.heap.size := lt_of_block r2
              dsimp only)
           | fail)
        all_goals
          go_wp2_with fail
          have t5 : (w3.setCell ⟨w.heap.size + 1 + 1, 3, none⟩ (.slice (some ⟨g9, 0, none⟩) (i + 1) cp3)).heap[w.heap.size + 1 + 1]? = some (.cells #[.int .i64 kk, .string n, .bool gg, .slice (some ⟨g9, 0, none⟩) (i + 1) cp3] 52 (0, 0)) := by
            simp [World.setCell, Array.getElem?_modify, t0]
          (have t6 := (Below.heap_setCell w3 ⟨w.heap.size + 1 + 1, 3, none⟩ (.slice (some ⟨g9, 0, none⟩) (i + 1) cp3) w.heap.size (by simp; omega)).trans ((hbB.block w.heap.size (by omega)).trans (below_keep hb1' q0))); (have t7 := (Below.heap_setCell w3 ⟨w.heap.size + 1 + 1, 3, none⟩ (.slice (some ⟨g9, 0, none⟩) (i + 1) cp3) (w.heap.size + 1) (by simp)).trans ((hbB.block (w.heap.size + 1) (by omega)).trans (below_keep hb1' q1))); (have BB : Below w.heap.size w (w3.setCell ⟨w.heap.size + 1 + 1, 3, none⟩ (.slice (some ⟨g9, 0, none⟩) (i + 1) cp3)) := ((hbr.trans (hb1'.mono zz)).trans (hbB.mono (by omega))).setCell (by simp; omega) _)
          have HKN : Hid (KD (w.heap.size + 3) (w3.setCell ⟨w.heap.size + 1 + 1, 3, none⟩ (.slice (some ⟨g9, 0, none⟩) (i + 1) cp3)) (some ⟨g9, 0, none⟩) cp3 (dualL (ks.take (i + 1)))) := by
            show KD _ _ _ _ _; rw [HT.out]; (exact HKO.out.same fun b hb _ => Below.heap_setCell _ _ _ _ (by simp; omega))
          go_roundg (ks.length - (i + 1))
          case measure => have := HG.out; omega
          case rel => exact ⟨i + 1, some ⟨g9, 0, none⟩, cp3, by omega, rfl, by go_num, BB, t6, t7, t5, HKN⟩
      · obtain rfl : i = ks.length := by omega
        have HKE : Hid (KD (w.heap.size + 3) wr ad cp (dualL ks)) := by
          have := HK.out; rw [List.take_length] at this; exact this
        clear HK HX hrep; obtain ⟨o0, o1, o2, o3, o4, o5, o6, o7⟩ := blk4N q1; go_wp2_with fail; have f3 := set4N q1 (.int .i64 kk) (.string n) (.bool gg) (.slice ad ks.length cp); (have BF : Below w.heap.size w ((((wr.setCell ⟨w.heap.size + 1, 0, none⟩ (.int .i64 kk)).setCell ⟨w.heap.size + 1, 1, none⟩ (.string n)).setCell ⟨w.heap.size + 1, 2, none⟩ (.bool gg)).setCell ⟨w.heap.size + 1, 3, none⟩ (.slice ad ks.length cp)) := (((hbr.setCell (by simp) _).setCell (by simp) _).setCell (by simp) _).setCell (by simp) _)
        have RF := (HKE.out.same (w' := (((wr.setCell ⟨w.heap.size + 1, 0, none⟩ (.int .i64 kk)).setCell ⟨w.heap.size + 1, 1, none⟩ (.string n)).setCell ⟨w.heap.size + 1, 2, none⟩ (.bool gg)).setCell ⟨w.heap.size + 1, 3, none⟩ (.slice ad ks.length cp)) fun b hb _ => by
          rw [Below.heap_setCell _ _ _ _ (by simp; omega), Below.heap_setCell _ _ _ _ (by simp; omega), Below.heap_setCell _ _ _ _ (by simp; omega), Below.heap_setCell _ _ _ _ (by simp; omega)]).rep kk n gg hx1
        rw [dualL_len] at RF; generalize World.setCell _ _ _ = F at f3 BF RF ⊢; clear o0 o1 o2 o3 o4 o5 o6 o7; obtain ⟨o0, o1, o2, o3, -⟩ := blk4N f3; (exact bodyPost_ret (v := .agg #[.int .i64 kk, .string n, .bool gg, .slice ad ks.length cp]) (by simp [results, Try.results30, go_sem, o0, o1, o2, o3]) rfl ⟨_, rfl, by rw [HD.out]; exact LRp.move (fun b _ hb => ⟨rfl, by omega⟩) _ _ RF, BF⟩)
  · obtain ⟨kk, hkk⟩ : ∃ kk : Int, kk = 5 - k := ⟨_, rfl⟩
    obtain ⟨gg, hgg⟩ : ∃ gg : Bool, gg = false := ⟨_, rfl⟩; (have HD : Hid (dualF (.mk k n g ks) = .mk kk n gg (dualL ks)) := by show _ = _; rw [dualF, if_neg h1, if_neg h1, hkk, hgg]); have HKK : Hid (kk = 5 - k ∧ gg = false) := ⟨hkk, hgg⟩; (have hkl : (2 : Int) ≤ k := by omega); (have hku : k ≤ (3 : Int) := by omega); (have hkne : (k == 1) = false := by simpa using h1); clear hkk hgg hkr h1
    go_enter Try.func30, Try.ntmps30
    go_wp2_with fail
    go_loopg [4] ks.length (fun gz c wr => ∃ i ad cp, i ≤ ks.length ∧ gz = ks.length - i ∧ c = .int .i64 (i : Nat) ∧ Below w.heap.size w wr ∧ wr.heap[w.heap.size]? = some (.cells #[.int .i64 k, .string n, .bool g, .slice sl ks.length cap] 52 (0, 0)) ∧ wr.heap[w.heap.size + 1]? = some (.cells #[.int .i64 0, .string ⟨#[]⟩, .bool false, .slice none 0 0] 52 (0, 0)) ∧ wr.heap[w.heap.size + 1 + 1]? = some (.cells #[.int .i64 kk, .string n, .bool gg, .slice ad i cp] 52 (0, 0)) ∧ Hid (KD (w.heap.size + 3) wr ad cp (dualL (ks.take i))))
    case atStart =>
      (refine ⟨0, none, 0, by omega, by omega, rfl, (((Below.refl _ w).alloc (Nat.le_refl _) _).alloc (by simp) _).alloc (by simp; omega) _, two_new.1, two_new.2, ?_, KD.nil⟩); rw [HKK.out.1, HKK.out.2]; exact three_at
    case round =>
      obtain ⟨i, ad, cp, hile, hg, rfl, hbr, q0, q1, q2, HK⟩ := hrel; have HG : Hid (gk = ks.length - i) := hg; clear hg; obtain ⟨e0, e1, e2, e3, -⟩ := blk4N q0; obtain ⟨p0, p1, p2, p3, p4, p5, p6, p7⟩ := blk4N q2; have z0 := lt_of_block q0; have z2 := lt_of_block q2; have zz := hbr.size; by_cases hlt : i < ks.length
      · obtain ⟨⟨k2, n2, g2, ks2⟩, hki⟩ : ∃ f, ks[i]? = some f := ⟨_, List.getElem?_eq_getElem hlt⟩
        (have hltI : (i : Int) < (ks.length : Int) := by omega); (obtain ⟨b, off, hsl, hrs⟩ := HX.out (fun e => by rw [e] at hlt; simp at hlt)); subst hsl; obtain ⟨sl2, cap2, g0, g1, gb, g3, hrep2⟩ := (hrs.up hbr).at i k2 n2 g2 ks2 hki; obtain ⟨⟨k3, n3, g4, ks3⟩, hdk⟩ : ∃ d, dualF (.mk k2 n2 g2 ks2) = d := ⟨_, rfl⟩; (have hsz : (Lm.mk k2 n2 g2 ks2).size < m := by have := lsizes_get hki; rw [Lm.size] at hm; omega); (have HIH : Hid (∀ wx, LRep wx (.mk k2 n2 g2 ks2) (.agg #[.int .i64 k2, .string n2, .bool g2, .slice sl2 ks2.length cap2]) → Calls Try.prog 30 #[.agg #[.int .i64 k2, .string n2, .bool g2, .slice sl2 ks2.length cap2]] wx fun e w' => ∃ u, e = .returned u ∧ LRp w' (wx.heap.size ≤ ·) (.mk k3 n3 g4 ks3) u ∧ Below wx.heap.size wx w') := fun wx h => by rw [← hdk]; exact ih _ _ wx hsz (HF.out.kids _ (List.mem_of_getElem? hki)) h)
        have zb0 : b < w.heap.size := by
          obtain ⟨c0, _, _, _, h0, _⟩ := hrs.get i _ hki; exact lt_of_cell h0
        (have hlc : ((i : Nat) : Int) < ((cap : Nat) : Int) := by omega); have zb := lt_of_cell g0; simp only at zb
        have HT : Hid (dualL (ks.take (i + 1)) = dualL (ks.take i) ++ [.mk k3 n3 g4 ks3]) := by
          show _ = _; rw [List.take_add_one, hki, Option.toList_some, dualL_app, dualL, dualL, hdk]
        (have hti : (dualL (ks.take i)).length = i := by rw [dualL_len, List.length_take]; omega)
        have HOB : Hid (∀ b, wr.heap.size ≤ b → w.heap.size + 3 ≤ b ∧ (Value.slice ad i cp).ownBlock ≠ some b) := fun b hb => by
          obtain ⟨cs, ho, -⟩ := HK.out; rw [hti] at ho; (exact ⟨by omega, fun e => by have := (ho.lt b e).2; omega⟩)
        clear hki hrs hrep HX hdk; obtain ⟨hi, hz0, hz1, hz2⟩ := HIo.out; go_wp2_with fail
        go_region_law
          (first
           | (have hown := (HK.out.up hb1').up ((Below.refl _ w1).alloc (Nat.le_refl _) (.cells #[.int .i64 k3, .string n3, .bool g4, .slice sl3 ks3.length cap3] 52 (0, 0)))
              obtain ⟨cs, hown, hlq⟩ := hown; rw [hti] at hown hlq; (refine step_append_lies _ rfl _ _ 22 rfl (w.heap.size + 3) 52 i0 (.agg #[.int .i64 0, .string ⟨#[]⟩, .bool false, .slice none 0 0]) 4 56 Try.underlying22 hi hz0 hz1 hz2 rfl (by decide) _ _ _ rfl hown ⟨w1.heap.size, 0, none⟩ 1 1 [.int .i64 k3, .string n3, .bool g4, .slice sl3 ks3.length cap3] rfl rfl ?_ ?_ (by omega) (by unfold maxLen; omega) (by omega) (by simp; omega) _ rfl ?_)
              · intro j u hu
                rw [add_none, Nat.zero_add, blk_cell (blk_new w1 _)]; simpa using hu
              · intro u hu
                simp at hu
                rcases hu with rfl | rfl | rfl | rfl <;> rfl
              intro g9 cp3 w3 hown3 hgrow hat hlt3; have hgrow' : (w1.alloc (.cells #[.int .i64 k3, .string n3, .bool g4, .slice sl3 ks3.length cap3] 52 (0, 0))).grownBy w3 (Value.slice ad i cp).ownBlock := hgrow; have hat' : (Value.slice ad i cp).ownBlock = some g9 ∨ g9 = (w1.alloc (.cells #[.int .i64 k3, .string n3, .bool g4, .slice sl3 ks3.length cap3] 52 (0, 0))).heap.size := hat; clear hgrow hat; (obtain ⟨hbB, hko⟩ := KD.app hti (by omega) hown hlq (LRp.move (fun b hb1 hb2 => ⟨rfl, (HOB.out b hb2).1, (HOB.out b hb2).2⟩) _ _ hrep3) hown3 hgrow' hat'); have HKO : Hid (KD (w.heap.size + 3) w3 (some ⟨g9, 0, none⟩) cp3 (dualL (ks.take i) ++ [.mk k3 n3 g4 ks3])) := hko; clear hgrow' hat' hown3 hown hlq hko c1 c2 c3 c4 c5; (have t1 := (hbB.cell (p := ⟨w.heap.size, 3, none⟩) (show w.heap.size < w.heap.size + 3 by omega)).trans (cell_of_block (hb1'.block _ z0) |>.trans e3)); (have t2 := (hbB.cell (p := ⟨b, off + i * 4, none⟩) (show b < w.heap.size + 3 by omega)).trans (cell_of_block (hb1'.block _ zb) |>.trans g0)); (have t3 := (hbB.cell (p := ⟨b, off + i * 4 + 1, none⟩) (show b < w.heap.size + 3 by omega)).trans (cell_of_block (hb1'.block _ zb) |>.trans g1)); (have t4 := (hbB.cell (p := ⟨b, off + i * 4 + 2, none⟩) (show b < w.heap.size + 3 by omega)).trans (cell_of_block (hb1'.block _ zb) |>.trans gb)); (have t8 := (hbB.cell (p := ⟨b, off + i * 4 + 3, none⟩) (show b < w.heap.size + 3 by omega)).trans (cell_of_block (hb1'.block _ zb) |>.trans g3)); (have t0 := (hbB.block (w.heap.size + 1 + 1) (by omega)).trans r2); clear s0 s1 s2 s3 s4 s5 s6 s7; obtain ⟨s0, s1, s2, s3, s4, s5, s6, s7⟩ := blk4N t0
              have y3 := hbB.size)
           | (go_simp
              go_at_call 30
              refine (HIH.out _ (hrep2.up (Below.refl _ _).drew)).mono ?_; rintro e w1 ⟨u, rfl, hrep3, hb1⟩; obtain ⟨sl3, cap3, rfl, -⟩ := LRp.def.1 hrep3; have hb1' : Below wr.heap.size wr w1 := (Below.refl _ wr).drew.trans hb1; clear hb1; have c1 := (hb1'.cell (p := ⟨w.heap.size, 3, none⟩) z0).trans e3; have c2 := (hb1'.cell (p := ⟨b, off + i * 4, none⟩) zb).trans g0; have c3 := (hb1'.cell (p := ⟨b, off + i * 4 + 1, none⟩) zb).trans g1; have c4 := (hb1'.cell (p := ⟨b, off + i * 4 + 2, none⟩) zb).trans gb; have c5 := (hb1'.cell (p := ⟨b, off + i * 4 + 3, none⟩) zb).trans g3; have r2 := below_keep hb1' q2; obtain ⟨s0, s1, s2, s3, s4, s5, s6, s7⟩ := blk4N r2; have y0 : w.heap.size < w1.heap.size := Nat.lt_of_lt_of_le z0 hb1'.size; have yb : b < w1.heap.size := Nat.lt_of_lt_of_le zb hb1'.size; have y2 : w.heap.size + 1 + 1 < w1.heap.size := lt_of_block r2
              dsimp only)
           | fail)
        all_goals
          go_wp2_with fail
          have t5 : (w3.setCell ⟨w.heap.size + 1 + 1, 3, none⟩ (.slice (some ⟨g9, 0, none⟩) (i + 1) cp3)).heap[w.heap.size + 1 + 1]? = some (.cells #[.int .i64 kk, .string n, .bool gg, .slice (some ⟨g9, 0, none⟩) (i + 1) cp3] 52 (0, 0)) := by
            simp [World.setCell, Array.getElem?_modify, t0]
          (have t6 := (Below.heap_setCell w3 ⟨w.heap.size + 1 + 1, 3, none⟩ (.slice (some ⟨g9, 0, none⟩) (i + 1) cp3) w.heap.size (by simp; omega)).trans ((hbB.block w.heap.size (by omega)).trans (below_keep hb1' q0))); (have t7 := (Below.heap_setCell w3 ⟨w.heap.size + 1 + 1, 3, none⟩ (.slice (some ⟨g9, 0, none⟩) (i + 1) cp3) (w.heap.size + 1) (by simp)).trans ((hbB.block (w.heap.size + 1) (by omega)).trans (below_keep hb1' q1))); (have BB : Below w.heap.size w (w3.setCell ⟨w.heap.size + 1 + 1, 3, none⟩ (.slice (some ⟨g9, 0, none⟩) (i + 1) cp3)) := ((hbr.trans (hb1'.mono zz)).trans (hbB.mono (by omega))).setCell (by simp; omega) _)
          have HKN : Hid (KD (w.heap.size + 3) (w3.setCell ⟨w.heap.size + 1 + 1, 3, none⟩ (.slice (some ⟨g9, 0, none⟩) (i + 1) cp3)) (some ⟨g9, 0, none⟩) cp3 (dualL (ks.take (i + 1)))) := by
            show KD _ _ _ _ _; rw [HT.out]; (exact HKO.out.same fun b hb _ => Below.heap_setCell _ _ _ _ (by simp; omega))
          go_roundg (ks.length - (i + 1))
          case measure => have := HG.out; omega
          case rel => exact ⟨i + 1, some ⟨g9, 0, none⟩, cp3, by omega, rfl, by go_num, BB, t6, t7, t5, HKN⟩
      · obtain rfl : i = ks.length := by omega
        have HKE : Hid (KD (w.heap.size + 3) wr ad cp (dualL ks)) := by
          have := HK.out; rw [List.take_length] at this; exact this
        clear HK HX hrep; obtain ⟨o0, o1, o2, o3, o4, o5, o6, o7⟩ := blk4N q1; go_wp2_with fail; have f3 := set4N q1 (.int .i64 kk) (.string n) (.bool gg) (.slice ad ks.length cp); (have BF : Below w.heap.size w ((((wr.setCell ⟨w.heap.size + 1, 0, none⟩ (.int .i64 kk)).setCell ⟨w.heap.size + 1, 1, none⟩ (.string n)).setCell ⟨w.heap.size + 1, 2, none⟩ (.bool gg)).setCell ⟨w.heap.size + 1, 3, none⟩ (.slice ad ks.length cp)) := (((hbr.setCell (by simp) _).setCell (by simp) _).setCell (by simp) _).setCell (by simp) _)
        have RF := (HKE.out.same (w' := (((wr.setCell ⟨w.heap.size + 1, 0, none⟩ (.int .i64 kk)).setCell ⟨w.heap.size + 1, 1, none⟩ (.string n)).setCell ⟨w.heap.size + 1, 2, none⟩ (.bool gg)).setCell ⟨w.heap.size + 1, 3, none⟩ (.slice ad ks.length cp)) fun b hb _ => by
          rw [Below.heap_setCell _ _ _ _ (by simp; omega), Below.heap_setCell _ _ _ _ (by simp; omega), Below.heap_setCell _ _ _ _ (by simp; omega), Below.heap_setCell _ _ _ _ (by simp; omega)]).rep kk n gg hx1
        rw [dualL_len] at RF; generalize World.setCell _ _ _ = F at f3 BF RF ⊢; clear o0 o1 o2 o3 o4 o5 o6 o7; obtain ⟨o0, o1, o2, o3, -⟩ := blk4N f3; (exact bodyPost_ret (v := .agg #[.int .i64 kk, .string n, .bool gg, .slice ad ks.length cp]) (by simp [results, Try.results30, go_sem, o0, o1, o2, o3]) rfl ⟨_, rfl, by rw [HD.out]; exact LRp.move (fun b _ hb => ⟨rfl, by omega⟩) _ _ RF, BF⟩)
theorem duals_all : ∀ m, DualS m
  | 0 => fun _ _ _ h => absurd h (Nat.not_lt_zero _)
  | m + 1 => dual_step m (duals_all m)
theorem dual_any (f : Lm) (v : Value) (w : World) (hf : LFine f) (hrep : LRep w f v) :
    Calls Try.prog 30 #[v] w fun e w' => ∃ u, e = .returned u ∧ LRep w' (dualF f) u ∧ Below w.heap.size w w' :=
  (duals_all (f.size + 1) f v w (Nat.lt_succ_self _) hf hrep).mono fun _ _ ⟨u, e, h, b⟩ => ⟨u, e, LRp.rep _ _ h, b⟩
end Go.Proofs.Ytealalhgkdlmkai
/- Plain things for the law NetIdentity: lists in memory. -/
namespace Go.Proofs.Ytealalhgkdlmkai
open Go.RowKit Go.Sort

/-- A list of one formula, made new. -/
theorem one_ll {w W : World} {T : TypeId} {x : Lm} {c0 c1 c2 c3 : Value} (hb : Below w.heap.size w W) (hx : LRep w x (.agg #[c0, c1, c2, c3])) : LL (W.alloc (.cells #[c0, c1, c2, c3] T (0, 0))) (.slice (some ⟨W.heap.size, 0, none⟩) 1 1) [x] := by
  have hq := blk_new W (.cells #[c0, c1, c2, c3] T (0, 0)); have hB := below_more hb (.cells #[c0, c1, c2, c3] T (0, 0)); (refine ⟨_, 1, rfl, by simp, by simp [maxLen], fun _ => ⟨W.heap.size, 0, rfl, LReps.cons.2 ⟨⟨c0, c1, c2, c3, ?_, ?_, ?_, ?_, LRep.keep (fun _ hlt _ hc => (hB.cell hlt).trans hc) _ _ hx⟩, LReps.nil⟩⟩⟩ <;> rw [blk_cell hq] <;> rfl)
/-- A list of two formulas in a block. -/
theorem pair_ll {W : World} {q : Nat} {T : TypeId} {f0 h0 : Lm} {u0 u1 u2 u3 y0 y1 y2 y3 : Value} (hf : LRep W f0 (.agg #[u0, u1, u2, u3])) (hh : LRep W h0 (.agg #[y0, y1, y2, y3])) (hq : W.heap[q]? = some (.cells #[u0, u1, u2, u3, y0, y1, y2, y3] T (0, 0))) : LL W (.slice (some ⟨q, 0, none⟩) 2 2) [f0, h0] := by
  (refine ⟨_, 2, rfl, by simp, by simp [maxLen], fun _ => ⟨q, 0, rfl, LReps.cons.2 ⟨⟨u0, u1, u2, u3, ?_, ?_, ?_, ?_, hf⟩, LReps.cons.2 ⟨⟨y0, y1, y2, y3, ?_, ?_, ?_, ?_, hh⟩, LReps.nil⟩⟩⟩⟩ <;> rw [blk_cell hq] <;> rfl)
theorem par_ll {w W : World} {B q n cp : Nat} {T : TypeId} {ad : Option Addr} {f0 h0 : Lm} {l' : List Lm} {dl : List Value} {u0 u1 u2 u3 y0 y1 y2 y3 : Value} (hb : Below w.heap.size w W) (hl : LQ4 w dl l') (hf : LRep w f0 (.agg #[u0, u1, u2, u3])) (hh : LRep w h0 (.agg #[y0, y1, y2, y3])) (hq : W.heap[q]? = some (.cells #[u0, u1, u2, u3, y0, y1, y2, y3] T (0, 0))) (hn : n = l'.length + 1) (ho : W.ownsRow B 52 4 (.slice ad n cp) n (dl ++ [.int .i64 3, .string ⟨#[]⟩, .bool false, .slice (some ⟨q, 0, none⟩) 2 2])) : LL W (.slice ad n cp) (l' ++ [parL f0 h0]) := by
  (have hL : n = (l' ++ [parL f0 h0]).length := by rw [List.length_append]; exact hn); subst hL; (have hc : ∀ a : Addr, a.block < w.heap.size → (∀ c, w.cell? a = some c → W.cell? a = some c) := fun _ hlt _ hc => (hb.cell hlt).trans hc); (refine LOw.ll (B := B) ⟨_, ho, LQ4.append (hl.keep hc) ⟨?_, fun u hu => ?_, trivial⟩⟩)
  · obtain ⟨sl, cap, e, g1, g2, g3⟩ := pair_ll (LRep.keep hc _ _ hf) (LRep.keep hc _ _ hh) hq
    simp only [Value.slice.injEq, List.length_cons, List.length_nil] at e; obtain ⟨rfl, -, rfl⟩ := e; exact LRep.def.2 ⟨_, 2, rfl, Nat.zero_le _, g1, g2, g3⟩
  · simp only [List.mem_cons, List.not_mem_nil, or_false] at hu
    rcases hu with rfl | rfl | rfl | rfl <;> rfl
/-- The last two of a list in cells. -/
theorem LQ4.last2 {w : World} {cs : List Value} {l : List Lm} (k : Nat) (h : LQ4 w cs l) (e : l.length = k + 2) : ∃ l' f0 h0 dl u0 u1 u2 u3 y0 y1 y2 y3, l = l' ++ [f0, h0] ∧ l'.length = k ∧ cs = (dl ++ [u0, u1, u2, u3]) ++ [y0, y1, y2, y3] ∧ LQ4 w dl l' ∧ LRep w f0 (.agg #[u0, u1, u2, u3]) ∧ LRep w h0 (.agg #[y0, y1, y2, y3]) := by
  obtain ⟨l1, h0, d1, y0, y1, y2, y3, e1, e2, e3, e4, e5, -⟩ := LQ4.last (k + 1) h e; obtain ⟨l', f0, dl, u0, u1, u2, u3, g1, g2, g3, g4, g5, -⟩ := LQ4.last k e4 e2; (exact ⟨l', f0, h0, dl, u0, u1, u2, u3, y0, y1, y2, y3, by rw [e1, g1]; simp, g2, by rw [e3, g3], g4, g5, e5⟩)
theorem par_b {l l' : List Lm} {f0 h0 : Lm} {a : List (Int × Int)} {mu : Nat → Option Nat} {c : Nat} {x z : Bool} (el : l = l' ++ [f0, h0]) (h : netC l a = .ok mu c) (hsz : Lm.sizes l ≤ 199) (hx : x = true ↔ CorrN l mu a.length) (hB : CorrB (l' ++ [parL f0 h0]) a z) : z = x ∧ (netE (netC (l' ++ [parL f0 h0]) a)).1 = 0 := by
  subst el; obtain ⟨e, hn⟩ := par_all h hsz; unfold CorrB at hB; rw [e] at hB ⊢; refine ⟨?_, rfl⟩; have hB2 : z = true ↔ _ := hB; rw [Bool.eq_iff_iff, hB2, hx]; exact hn
theorem id_b {f : Lm} {n : Nat} {z : Bool} (h : LFine f) (hs : f.size ≤ 100) (hn : n = (lvsF f 0).length) (hB : CorrB [f, dualF f] (idLk n 0 n) z) : z = true ∧ (netE (netC [f, dualF f] (idLk n 0 n))).1 = 0 := by
  subst hn; obtain ⟨mu, c, e, hc⟩ := id_all h hs; unfold CorrB at hB; rw [e] at hB ⊢; exact ⟨hB.2 hc, rfl⟩
theorem idLk_snoc (n i : Nat) : idLk n 0 (i + 1) = idLk n 0 i ++ [((i : Int), (n : Int) + (i : Int))] := by
  unfold idLk; rw [← List.range_eq_range', ← List.range_eq_range', List.range_succ, List.map_append]; rfl
theorem idLk_len (n i : Nat) : (idLk n 0 i).length = i := by unfold idLk; simp
end Go.Proofs.Ytealalhgkdlmkai
