/- Texts of one proof, one behind the other: CG2, CG3, CH1, CH2, CH3, CH4, CH5, CH6. -/
import Derived.Test.YtmahgfgndfcmpabB40
import Derived.Test.YtmahgfgndfcmpabB19
import Derived.Test.YtmahgfgndfcmpabB11
import Derived.Test.YtmahgfgndfcmpabB07
import Derived.Test.YtmahgfgndfcmpabB08
import Derived.Deep.RegionLaw
import Derived.Deep.DeepCutAuto
import Derived.Test.YtmahgfgndfcmpabB09
import Derived.Test.YtmahgfgndfcmpabB22
/- Walks: look. -/
namespace Go.Proofs.Ytmahgfgndfcmpab
open Go.RowKit Go.Maps Go.WideMaps

def PLookP (i : Bool) (m : Nat) : Prop := ∀ (p : Pf) (v : Value) (w0 w : World) (bc mm d s c : Nat), p.size < m → SmallP p → PRep w0 p v → RulesAt i w0 mm → Below w0.heap.size w0 w → w0.heap.size ≤ bc → Ck w bc i mm s c → s ≤ 20000 → c ≤ s → d ≤ 401 →
  Calls Try.prog 73 #[.pointer (some ⟨bc, 0, none⟩), v, .int .i64 (d : Nat)] w fun e w' => e = .returned (.agg #[.int .i64 (look i p d s c).1.1, .int .i64 (look i p d s c).1.2]) ∧ Ck w' bc i mm (look i p d s c).2.1 (look i p d s c).2.2 ∧ KB1 bc w w'

set_option maxRecDepth 10000 in
set_option maxHeartbeats 8000000 in
theorem plook_step (i : Bool) (m : Nat) (ih : PLookP i m) : PLookP i (m + 1) := by
  intro p v w0 w bc mm d s c hm hsm hv hru hB0 hbc hck hs hc hd; obtain ⟨a, ⟨k, n, kf⟩, l, r, ks⟩ := p; obtain ⟨hl4, hr4, hk4, hsk⟩ := hsm.parts; have hVw := PRep.up hB0 _ _ hv; obtain ⟨sf, cf, al, cl, ar, cr, sl, cap, rfl, ha, hf, hl, hr, hkc, hcm, hks⟩ := hVw.parts; have HV : Hid (PRep w (.mk a (.mk k n kf) l r ks) _) := hVw; have HRU : Hid (RulesAt i w0 mm) := hru; have HB0 : Hid (Below w0.heap.size w0 w) := hB0; have HCK : Hid (Ck w bc i mm s c) := hck; obtain ⟨i0, i1, i2, i3, f2, f3⟩ := blk4 (show w.heap[bc]? = _ from hck); have zbc := ck_lt hck; (have d1 : ¬ bc = w.heap.size := by omega); (have d2 : ¬ bc = w.heap.size + 1 := by omega); (have d3 : ¬ w.heap.size = bc := by omega); (have d4 : ¬ w.heap.size + 1 = bc := by omega); (have hsI : (s : Int) ≤ 20000 := by omega); (have hdI : (d : Int) ≤ 401 := by omega); (have hcI : (c : Int) ≤ 20000 := by omega); have hld := look_def i a (.mk k n kf) l r ks d s c; clear hf hl hr hVw; by_cases h1 : s = 20000 ∨ 400 < d
  · rw [if_pos h1] at hld
    rw [hld]; clear hv hks; by_cases hs2 : s = 20000
    · subst hs2
      go_enter Try.func73, Try.ntmps73
      go_wp2_with fail; (exact bodyPost_ret (v := .agg #[.int .i64 2, .int .i64 0]) (by simp [results, Try.results73, go_sem]) rfl ⟨rfl, ck_alloc (ck_alloc HCK.out _) _, kb_below (below_more (below_more (Below.refl _ w) _) _)⟩)
    · have hs3 : ((s : Int) == 20000) = false := by simp; omega
      (have hs4 : ¬ (s : Int) = 20000 := by omega); (have hd3 : (400 : Int) < (d : Int) := by omega); clear h1
      go_enter Try.func73, Try.ntmps73
      go_wp2_with fail; (exact bodyPost_ret (v := .agg #[.int .i64 2, .int .i64 0]) (by simp [results, Try.results73, go_sem]) rfl ⟨rfl, ck_alloc (ck_alloc HCK.out _) _, kb_below (below_more (below_more (Below.refl _ w) _) _)⟩)
  · rw [if_neg h1] at hld
    (have hs3 : ((s : Int) == 20000) = false := by simp; omega); (have hs4 : ¬ (s : Int) = 20000 := by omega); (have hd3 : ¬ (400 : Int) < (d : Int) := by omega); (have hs5 : s + 1 ≤ 20000 := by omega); (have hd5 : d + 1 ≤ 401 := by omega); (have HM : Hid (Pf.sizes ks < m) := by have : Pf.sizes ks + 1 < m + 1 := hm; show _ < _; omega); have HIH : Hid (PLookP i m) := ih; have HSK : Hid (∀ k ∈ ks, SmallP k) := hsk
    have HKS : Hid (ks ≠ [] → ∃ b off, sl = some ⟨b, off, none⟩ ∧ PReps w0 b off ks) := by
      obtain ⟨_, _, _, _, _, _, sl', cap', hpe, -, -, -, -, -, -, h⟩ := hv.parts; simp only [Value.agg.injEq, Array.mk.injEq, List.cons.injEq, Value.slice.injEq, and_true, true_and] at hpe; obtain ⟨-, -, -, h1, -⟩ := hpe; rw [h1]; exact h
    have HV0 : Hid (PRep w0 (.mk a (.mk k n kf) l r ks) _) := hv; (have hkI : (ks.length : Int) ≤ 1200 := by omega); clear h1 hks hv ih hsk hsm hm hru hB0; obtain ⟨O, hO⟩ : ∃ O, O = Obj.cells #[.string a, .int .i64 k, .string n, .slice sf kf.length cf, .slice al l.length cl, .slice ar r.length cr, .slice sl ks.length cap] 62 (0, 0) := ⟨_, rfl⟩; obtain ⟨W, hW⟩ : ∃ W, W = ((w.alloc O).alloc (.cells #[.int .i64 0, .int .i64 0] 25 (0, 0))).setCell ⟨bc, 2, none⟩ (.int .i64 ((s + 1 : Nat) : Int)) := ⟨_, rfl⟩
    have hKW : KB1 bc w W := by
      rw [hW]; (exact (kb_below (below_more (below_more (Below.refl _ w) _) _)).setCell (p := ⟨bc, 2, none⟩) (fun _ h => h rfl) _)
    have hCW : Ck W bc i mm (s + 1) c := by
      rw [hW]; exact ck_set2 (ck_alloc (ck_alloc HCK.out _) _) (s + 1)
    have hW0 : W.heap[w.heap.size]? = some O := by
      (rw [hW, Below.heap_setCell _ _ _ _ (by simpa using d3)]); exact alloc_keep (blk_new w _) _
    have hW1 : W.heap[w.heap.size + 1]? = some (.cells #[.int .i64 0, .int .i64 0] 25 (0, 0)) := by
      (rw [hW, Below.heap_setCell _ _ _ _ (by simpa using d4)]); exact blk_two w _ _
    rw [hO] at hW0; have HKW : Hid (KB1 bc w W) := hKW; have HCW : Hid (Ck W bc i mm (s + 1) c) := hCW; have HW0 : Hid (W.heap[w.heap.size]? = some _) := hW0; have HW1 : Hid (W.heap[w.heap.size + 1]? = some _) := hW1; have hBW := kb_base HB0.out hbc hKW; have HBW : Hid (Below w0.heap.size w0 W) := hBW; have hsc := stepCode_any i bc mm (s + 1) c a (.mk k n kf) l r ks hl4 hr4 _ W (PRep.up hBW _ _ HV0.out) hCW (HRU.out.up hBW); have HSC : Hid (Calls Try.prog 87 _ W _) := hsc; (have hWe : ((w.alloc O).alloc (.cells #[.int .i64 0, .int .i64 0] 25 (0, 0))).setCell ⟨bc, 2, none⟩ (.int .i64 ((s : Int) + 1)) = W := by rw [hW]; congr 2); rw [hO] at hWe; clear hKW hCW hW0 hW1 hBW hsc hW; generalize stepC i (.mk a (.mk k n kf) l r ks) = sc at *; obtain ⟨j0, j1, j2, j3, j4, j5, j6⟩ := blk7 HW0.out; by_cases hsc0 : sc = 0
    · subst hsc0
      (rw [if_neg (fun h => h rfl)] at hld); by_cases hcut : a.data.toList = Ru.cut.text
      · rw [if_pos hcut] at hld
        obtain ⟨c1, hc1⟩ : ∃ c1, c1 = c + 1 := ⟨_, rfl⟩; rw [← hc1] at hld; obtain ⟨T, hT⟩ : ∃ T, T = looks i ks (d + 1) (s + 1) c1 := ⟨_, rfl⟩; rw [← hT] at hld; rw [hld]; have HT : Hid (looks i ks (d + 1) (s + 1) c1 = T) := hT.symm; (have HC1b : Hid (c1 ≤ s + 1) := by show _ ≤ _; omega); (have hae : a = ⟨#[99, 117, 116]⟩ := by apply ByteArray.ext; apply Array.ext'; exact hcut); subst hae; (have hc1I : (c : Int) + 1 = (c1 : Int) := by omega); (have hc1w : IntKind.i64.wrap (c1 : Int) = (c1 : Int) := wrap_small c1 (by omega)); clear hcut hT hld hc1
        go_enter Try.func73, Try.ntmps73
        go_wp2_with fail; refine HSC.out.mono ?_; rintro e w3 ⟨rfl, hb3⟩; have hC3 := ck_below HCW.out hb3; obtain ⟨W4, hW4⟩ : ∃ W4, W4 = w3.setCell ⟨bc, 3, none⟩ (.int .i64 (c1 : Nat)) := ⟨_, rfl⟩; (have hC4 : Ck W4 bc i mm (s + 1) c1 := by rw [hW4]; exact ck_set3 hC3 c1); (have hK4 : KB1 bc w W4 := by rw [hW4]; exact (HKW.out.trans (kb_below hb3)).setCell (p := ⟨bc, 3, none⟩) (fun _ h => h rfl) _); (have hQa : W4.heap[w.heap.size]? = w3.heap[w.heap.size]? := by rw [hW4, Below.heap_setCell _ _ _ _ (by simpa using d3)]); (have hQb : W4.heap[w.heap.size + 1]? = w3.heap[w.heap.size + 1]? := by rw [hW4, Below.heap_setCell _ _ _ _ (by simpa using d4)]); have hQ0 := hQa.trans (below_keep hb3 HW0.out); have hQ1 := hQb.trans (below_keep hb3 HW1.out); clear hQa hQb; have HQ1 : Hid (W4.heap[w.heap.size + 1]? = some _) := hQ1; have HC4 : Hid (Ck W4 bc i mm (s + 1) c1) := hC4; have HKw4 : Hid (KB1 bc w W4) := hK4; have HB4 : Hid (Below w0.heap.size w0 W4) := kb_base HB0.out hbc hK4; clear i0 i1 i2 i3 f2 f3 j0 j1 j2 j3 j4 j5 j6; obtain ⟨i0, i1, i2, i3, f2, f3⟩ := blk4 (show w3.heap[bc]? = _ from hC3); obtain ⟨j0, -⟩ := blk7 (below_keep hb3 HW0.out); obtain ⟨-, j1, j2, j3, j4, j5, j6⟩ := blk7 hQ0; have hWe4 := hW4.symm; clear hW4 hC3 hC4 hK4 hQ0 hQ1; go_wp2_with fail; clear hWe4 i0 i1 i2 i3 f2 f3; clear j0 j1 j2 j3 j4 j5 j6; have zW4 : w.heap.size + 1 < W4.heap.size := lt_of_block HQ1.out
        go_loopg [51] ks.length (fun g cc wr => ∃ j s' c', j ≤ ks.length ∧ g = ks.length - j ∧ cc = .int .i64 (j : Nat) ∧ Hid (KB1 bc W4 wr) ∧ Hid (Ck wr bc i mm s' c') ∧ s' ≤ 20000 ∧ c' ≤ s' ∧ Hid (looks i (ks.drop j) (d + 1) s' c' = T))
        case atStart => exact ⟨0, s + 1, c1, by omega, by omega, rfl, Kept.refl _ _, HC4, hs5, HC1b.out, by show _ = _; rw [List.drop_zero]; exact HT.out⟩
        case round =>
          obtain ⟨j, s', c', hj, hg, rfl, HKr, HCr, hs', hc', HN⟩ := hrel; have HG : Hid (gk = ks.length - j) := hg; clear hg; have HBr : Hid (Below w0.heap.size w0 wr) := kb_base HB4.out hbc HKr.out; have HKwr : Hid (KB1 bc w wr) := HKw4.out.trans HKr.out; have zr := HKr.out.size; by_cases hlt : j < ks.length
          · obtain ⟨⟨ka, ⟨kk, kn, kkf⟩, kl, kr, kks⟩, hki⟩ : ∃ f, ks[j]? = some f := ⟨_, List.getElem?_eq_getElem hlt⟩
            (obtain ⟨b, off, rfl, hrs⟩ := HKS.out (fun e => by rw [e] at hlt; simp at hlt)); obtain ⟨sf2, cf2, al2, cl2, ar2, cr2, sl2, cap2, x0, x1, x2, x3, x4, x5, x6, hrep⟩ := (PReps.up HBr.out b off ks hrs).at j ka kk kn kkf kl kr kks hki; obtain ⟨sf3, cf3, al3, cl3, ar3, cr3, sl3, cap3, z0, z1, z2, z3, z4, z5, z6, hrep0⟩ := hrs.at j ka kk kn kkf kl kr kks hki; have e3 := (HBr.out.cell (p := ⟨b, off + j * 7 + 3, none⟩) (lt_of_cell z3)).trans z3; have e4 := (HBr.out.cell (p := ⟨b, off + j * 7 + 4, none⟩) (lt_of_cell z4)).trans z4; have e5 := (HBr.out.cell (p := ⟨b, off + j * 7 + 5, none⟩) (lt_of_cell z5)).trans z5; have e6 := (HBr.out.cell (p := ⟨b, off + j * 7 + 6, none⟩) (lt_of_cell z6)).trans z6; rw [x3] at e3; rw [x4] at e4; rw [x5] at e5; rw [x6] at e6; simp only [Option.some.injEq, Value.slice.injEq, true_and] at e3 e4 e5 e6; obtain ⟨rfl, rfl⟩ := e3; obtain ⟨rfl, rfl⟩ := e4; obtain ⟨rfl, rfl⟩ := e5; obtain ⟨rfl, rfl⟩ := e6; (have hltI : (j : Int) < (ks.length : Int) := by omega); (have hlc : (j : Int) < (cap : Int) := by omega); have hds := HN.out; rw [looks_drop hki] at hds; have hll := look_le i (.mk ka (.mk kk kn kkf) kl kr kks) (d + 1) s' c' hs' hc'; (have hih := fun (wx : World) (hb : Below w0.heap.size w0 wx) (hck : Ck wx bc i mm s' c') => HIH.out (.mk ka (.mk kk kn kkf) kl kr kks) _ w0 wx bc mm (d + 1) s' c' (Nat.lt_of_le_of_lt (pfsizes_get hki) HM.out) (HSK.out _ (List.mem_of_getElem? hki)) hrep0 HRU.out hb hbc hck hs' hc' hd5); generalize look i (.mk ka (.mk kk kn kkf) kl kr kks) (d + 1) s' c' = lk at *; obtain ⟨⟨lc, la⟩, ls, lcu⟩ := lk; (have HI : Hid (∀ (wx : World), Below w0.heap.size w0 wx → Ck wx bc i mm s' c' → Calls Try.prog 73 _ wx fun e w' => e = .returned (.agg #[.int .i64 lc, .int .i64 la]) ∧ Ck w' bc i mm ls lcu ∧ KB1 bc wx w') := hih); (have HD : Hid ((if lc ≠ 0 then ((lc, la), ls, lcu) else looks i (ks.drop (j + 1)) (d + 1) ls lcu) = T) := hds); have hll1 : ls ≤ 20000 := hll.1; have hll2 : lcu ≤ ls := hll.2; have zb : b < wr.heap.size := lt_of_cell x0; (have e1 : ¬ b = wr.heap.size := by omega); clear hki hrs hds hih hrep hrep0 z0 z1 z2 z3 z4 z5 z6 hll HN; go_wp2_with fail; refine (HI.out _ (below_more HBr.out _) (ck_alloc HCr.out _)).mono ?_; rintro e w5 ⟨rfl, hck5, hkb5⟩; have HK5 : Hid (KB1 bc wr w5) := (kb_below (below_more (Below.refl _ wr) _)).trans hkb5; have HC5 : Hid (Ck w5 bc i mm ls lcu) := hck5; have q5 := kb_keep HK5.out d4 (kb_keep HKr.out d4 HQ1.out); have HQ5 : Hid (w5.heap[w.heap.size + 1]? = some _) := q5; obtain ⟨y0, y1, y2, y3⟩ := blk2 q5; have z5 : w.heap.size + 1 < w5.heap.size := lt_of_block q5; (have e2 : ¬ w5.heap.size = w.heap.size + 1 := by omega); (have e3 : ¬ w.heap.size + 1 = w5.heap.size := by omega); clear hck5 hkb5 x0 x1 x2 x3 x4 x5 x6; by_cases hl0 : lc = 0
            · subst hl0
              have HT2 : Hid (looks i (ks.drop (j + 1)) (d + 1) ls lcu = T) := by
                have := HD.out
                rwa [if_neg (fun h => h rfl)] at this
              clear HD; go_wp2_with fail
              go_roundg (ks.length - (j + 1))
              case measure => have := HG.out; omega
              case rel => exact ⟨j + 1, ls, lcu, by omega, rfl, by go_num, (HKr.out.trans HK5.out).trans (kb_below (below_more (Below.refl _ w5) _)), ck_alloc HC5.out _, hll1, hll2, HT2⟩
            · have HT2 : Hid (T = ((lc, la), ls, lcu)) := by
                have := HD.out; rw [if_pos hl0] at this; exact this.symm
              (have hlJ : (lc != 0) = true := by simpa using hl0); clear HD; go_wp2_with fail; have f2 := set2 q5 (.int .i64 lc) (.int .i64 la); (have hC3 := ck_other (ck_other HC5.out (p := ⟨w.heap.size + 1, 0, none⟩) (by simpa using d4) (.int .i64 lc)) (p := ⟨w.heap.size + 1, 1, none⟩) (by simpa using d4) (.int .i64 la)); (have b2 : KB1 bc w ((w5.setCell ⟨w.heap.size + 1, 0, none⟩ (.int .i64 lc)).setCell ⟨w.heap.size + 1, 1, none⟩ (.int .i64 la)) := ((HKwr.out.trans HK5.out).setCell (p := ⟨w.heap.size + 1, 0, none⟩) (fun h => absurd h (Nat.not_lt.2 (Nat.le_succ _))) _).setCell (p := ⟨w.heap.size + 1, 1, none⟩) (fun h => absurd h (Nat.not_lt.2 (Nat.le_succ _))) _); (have hsz : ((w5.setCell ⟨w.heap.size + 1, 0, none⟩ (.int .i64 lc)).setCell ⟨w.heap.size + 1, 1, none⟩ (.int .i64 la)).heap.size = w5.heap.size := by simp [World.setCell]); generalize World.setCell _ _ _ = F at f2 b2 hC3 hsz ⊢; clear y0 y1 y2 y3; obtain ⟨k1, k2, -⟩ := blk2 f2; have d9 : w.heap.size + 1 < F.heap.size := lt_of_block f2; (exact bodyPost_ret (v := .agg #[.int .i64 lc, .int .i64 la]) (by simp [results, Try.results73, go_sem, k1, k2, d9]) rfl ⟨by rw [HT2.out], by rw [HT2.out]; exact ck_alloc hC3 _, b2.trans (kb_below (below_more (Below.refl _ F) _))⟩)
          · have HT2 : Hid (T = ((0, 0), s', c')) := by
              have := HN.out; (rw [List.drop_of_length_le (by omega), looks] at this); exact this.symm
            (have hge : ¬ (j : Int) < (ks.length : Int) := by omega); have q5 := kb_keep HKr.out d4 HQ1.out; obtain ⟨y0, y1, y2, y3⟩ := blk2 q5; clear HN; go_wp2_with fail; have f2 := set2 q5 (.int .i64 0) (.int .i64 0); (have hC3 := ck_other (ck_other HCr.out (p := ⟨w.heap.size + 1, 0, none⟩) (by simpa using d4) (.int .i64 0)) (p := ⟨w.heap.size + 1, 1, none⟩) (by simpa using d4) (.int .i64 0)); (have b2 : KB1 bc w ((wr.setCell ⟨w.heap.size + 1, 0, none⟩ (.int .i64 0)).setCell ⟨w.heap.size + 1, 1, none⟩ (.int .i64 0)) := (HKwr.out.setCell (p := ⟨w.heap.size + 1, 0, none⟩) (fun h => absurd h (Nat.not_lt.2 (Nat.le_succ _))) _).setCell (p := ⟨w.heap.size + 1, 1, none⟩) (fun h => absurd h (Nat.not_lt.2 (Nat.le_succ _))) _); generalize World.setCell _ _ _ = F at f2 b2 hC3 ⊢; clear y0 y1 y2 y3; obtain ⟨k1, k2, -⟩ := blk2 f2; (exact bodyPost_ret (v := .agg #[.int .i64 0, .int .i64 0]) (by simp [results, Try.results73, go_sem, k1, k2]) rfl ⟨by rw [HT2.out], by rw [HT2.out]; exact hC3, b2⟩)
      · rw [if_neg hcut] at hld
        obtain ⟨T, hT⟩ : ∃ T, T = looks i ks (d + 1) (s + 1) c := ⟨_, rfl⟩; rw [← hT] at hld; rw [hld]; have HT : Hid (looks i ks (d + 1) (s + 1) c = T) := hT.symm; (have HC1b : Hid (c ≤ s + 1) := by show _ ≤ _; omega); (have hcj : (a.toList == ([99, 117, 116] : List UInt8)) = false := by rw [ByteArray.toList_eq]; simpa [Ru.text] using hcut); clear hcut hT hld
        go_enter Try.func73, Try.ntmps73
        go_wp2_with fail; refine HSC.out.mono ?_; rintro e W4 ⟨rfl, hb3⟩; have hC3 := ck_below HCW.out hb3; have HQ1 : Hid (W4.heap[w.heap.size + 1]? = some _) := below_keep hb3 HW1.out; have HC4 : Hid (Ck W4 bc i mm (s + 1) c) := hC3; have HKw4 : Hid (KB1 bc w W4) := HKW.out.trans (kb_below hb3); have HB4 : Hid (Below w0.heap.size w0 W4) := kb_base HB0.out hbc HKw4.out; clear i0 i1 i2 i3 f2 f3 j0 j1 j2 j3 j4 j5 j6 hC3; obtain ⟨j0, j1, j2, j3, j4, j5, j6⟩ := blk7 (below_keep hb3 HW0.out); go_wp2_with fail; clear j0 j1 j2 j3 j4 j5 j6; have zW4 : w.heap.size + 1 < W4.heap.size := lt_of_block HQ1.out
        go_loopg [51] ks.length (fun g cc wr => ∃ j s' c', j ≤ ks.length ∧ g = ks.length - j ∧ cc = .int .i64 (j : Nat) ∧ Hid (KB1 bc W4 wr) ∧ Hid (Ck wr bc i mm s' c') ∧ s' ≤ 20000 ∧ c' ≤ s' ∧ Hid (looks i (ks.drop j) (d + 1) s' c' = T))
        case atStart => exact ⟨0, s + 1, c, by omega, by omega, rfl, Kept.refl _ _, HC4, hs5, HC1b.out, by show _ = _; rw [List.drop_zero]; exact HT.out⟩
        case round =>
          obtain ⟨j, s', c', hj, hg, rfl, HKr, HCr, hs', hc', HN⟩ := hrel; have HG : Hid (gk = ks.length - j) := hg; clear hg; have HBr : Hid (Below w0.heap.size w0 wr) := kb_base HB4.out hbc HKr.out; have HKwr : Hid (KB1 bc w wr) := HKw4.out.trans HKr.out; have zr := HKr.out.size; by_cases hlt : j < ks.length
          · obtain ⟨⟨ka, ⟨kk, kn, kkf⟩, kl, kr, kks⟩, hki⟩ : ∃ f, ks[j]? = some f := ⟨_, List.getElem?_eq_getElem hlt⟩
            (obtain ⟨b, off, rfl, hrs⟩ := HKS.out (fun e => by rw [e] at hlt; simp at hlt)); obtain ⟨sf2, cf2, al2, cl2, ar2, cr2, sl2, cap2, x0, x1, x2, x3, x4, x5, x6, hrep⟩ := (PReps.up HBr.out b off ks hrs).at j ka kk kn kkf kl kr kks hki; obtain ⟨sf3, cf3, al3, cl3, ar3, cr3, sl3, cap3, z0, z1, z2, z3, z4, z5, z6, hrep0⟩ := hrs.at j ka kk kn kkf kl kr kks hki; have e3 := (HBr.out.cell (p := ⟨b, off + j * 7 + 3, none⟩) (lt_of_cell z3)).trans z3; have e4 := (HBr.out.cell (p := ⟨b, off + j * 7 + 4, none⟩) (lt_of_cell z4)).trans z4; have e5 := (HBr.out.cell (p := ⟨b, off + j * 7 + 5, none⟩) (lt_of_cell z5)).trans z5; have e6 := (HBr.out.cell (p := ⟨b, off + j * 7 + 6, none⟩) (lt_of_cell z6)).trans z6; rw [x3] at e3; rw [x4] at e4; rw [x5] at e5; rw [x6] at e6; simp only [Option.some.injEq, Value.slice.injEq, true_and] at e3 e4 e5 e6; obtain ⟨rfl, rfl⟩ := e3; obtain ⟨rfl, rfl⟩ := e4; obtain ⟨rfl, rfl⟩ := e5; obtain ⟨rfl, rfl⟩ := e6; (have hltI : (j : Int) < (ks.length : Int) := by omega); (have hlc : (j : Int) < (cap : Int) := by omega); have hds := HN.out; rw [looks_drop hki] at hds; have hll := look_le i (.mk ka (.mk kk kn kkf) kl kr kks) (d + 1) s' c' hs' hc'; (have hih := fun (wx : World) (hb : Below w0.heap.size w0 wx) (hck : Ck wx bc i mm s' c') => HIH.out (.mk ka (.mk kk kn kkf) kl kr kks) _ w0 wx bc mm (d + 1) s' c' (Nat.lt_of_le_of_lt (pfsizes_get hki) HM.out) (HSK.out _ (List.mem_of_getElem? hki)) hrep0 HRU.out hb hbc hck hs' hc' hd5); generalize look i (.mk ka (.mk kk kn kkf) kl kr kks) (d + 1) s' c' = lk at *; obtain ⟨⟨lc, la⟩, ls, lcu⟩ := lk; (have HI : Hid (∀ (wx : World), Below w0.heap.size w0 wx → Ck wx bc i mm s' c' → Calls Try.prog 73 _ wx fun e w' => e = .returned (.agg #[.int .i64 lc, .int .i64 la]) ∧ Ck w' bc i mm ls lcu ∧ KB1 bc wx w') := hih); (have HD : Hid ((if lc ≠ 0 then ((lc, la), ls, lcu) else looks i (ks.drop (j + 1)) (d + 1) ls lcu) = T) := hds); have hll1 : ls ≤ 20000 := hll.1; have hll2 : lcu ≤ ls := hll.2; have zb : b < wr.heap.size := lt_of_cell x0; (have e1 : ¬ b = wr.heap.size := by omega); clear hki hrs hds hih hrep hrep0 z0 z1 z2 z3 z4 z5 z6 hll HN; go_wp2_with fail; refine (HI.out _ (below_more HBr.out _) (ck_alloc HCr.out _)).mono ?_; rintro e w5 ⟨rfl, hck5, hkb5⟩; have HK5 : Hid (KB1 bc wr w5) := (kb_below (below_more (Below.refl _ wr) _)).trans hkb5; have HC5 : Hid (Ck w5 bc i mm ls lcu) := hck5; have q5 := kb_keep HK5.out d4 (kb_keep HKr.out d4 HQ1.out); have HQ5 : Hid (w5.heap[w.heap.size + 1]? = some _) := q5; obtain ⟨y0, y1, y2, y3⟩ := blk2 q5; have z5 : w.heap.size + 1 < w5.heap.size := lt_of_block q5; (have e2 : ¬ w5.heap.size = w.heap.size + 1 := by omega); (have e3 : ¬ w.heap.size + 1 = w5.heap.size := by omega); clear hck5 hkb5 x0 x1 x2 x3 x4 x5 x6; by_cases hl0 : lc = 0
            · subst hl0
              have HT2 : Hid (looks i (ks.drop (j + 1)) (d + 1) ls lcu = T) := by
                have := HD.out
                rwa [if_neg (fun h => h rfl)] at this
              clear HD; go_wp2_with fail
              go_roundg (ks.length - (j + 1))
              case measure => have := HG.out; omega
              case rel => exact ⟨j + 1, ls, lcu, by omega, rfl, by go_num, (HKr.out.trans HK5.out).trans (kb_below (below_more (Below.refl _ w5) _)), ck_alloc HC5.out _, hll1, hll2, HT2⟩
            · have HT2 : Hid (T = ((lc, la), ls, lcu)) := by
                have := HD.out; rw [if_pos hl0] at this; exact this.symm
              (have hlJ : (lc != 0) = true := by simpa using hl0); clear HD; go_wp2_with fail; have f2 := set2 q5 (.int .i64 lc) (.int .i64 la); (have hC3 := ck_other (ck_other HC5.out (p := ⟨w.heap.size + 1, 0, none⟩) (by simpa using d4) (.int .i64 lc)) (p := ⟨w.heap.size + 1, 1, none⟩) (by simpa using d4) (.int .i64 la)); (have b2 : KB1 bc w ((w5.setCell ⟨w.heap.size + 1, 0, none⟩ (.int .i64 lc)).setCell ⟨w.heap.size + 1, 1, none⟩ (.int .i64 la)) := ((HKwr.out.trans HK5.out).setCell (p := ⟨w.heap.size + 1, 0, none⟩) (fun h => absurd h (Nat.not_lt.2 (Nat.le_succ _))) _).setCell (p := ⟨w.heap.size + 1, 1, none⟩) (fun h => absurd h (Nat.not_lt.2 (Nat.le_succ _))) _); (have hsz : ((w5.setCell ⟨w.heap.size + 1, 0, none⟩ (.int .i64 lc)).setCell ⟨w.heap.size + 1, 1, none⟩ (.int .i64 la)).heap.size = w5.heap.size := by simp [World.setCell]); generalize World.setCell _ _ _ = F at f2 b2 hC3 hsz ⊢; clear y0 y1 y2 y3; obtain ⟨k1, k2, -⟩ := blk2 f2; have d9 : w.heap.size + 1 < F.heap.size := lt_of_block f2; (exact bodyPost_ret (v := .agg #[.int .i64 lc, .int .i64 la]) (by simp [results, Try.results73, go_sem, k1, k2, d9]) rfl ⟨by rw [HT2.out], by rw [HT2.out]; exact ck_alloc hC3 _, b2.trans (kb_below (below_more (Below.refl _ F) _))⟩)
          · have HT2 : Hid (T = ((0, 0), s', c')) := by
              have := HN.out; (rw [List.drop_of_length_le (by omega), looks] at this); exact this.symm
            (have hge : ¬ (j : Int) < (ks.length : Int) := by omega); have q5 := kb_keep HKr.out d4 HQ1.out; obtain ⟨y0, y1, y2, y3⟩ := blk2 q5; clear HN; go_wp2_with fail; have f2 := set2 q5 (.int .i64 0) (.int .i64 0); (have hC3 := ck_other (ck_other HCr.out (p := ⟨w.heap.size + 1, 0, none⟩) (by simpa using d4) (.int .i64 0)) (p := ⟨w.heap.size + 1, 1, none⟩) (by simpa using d4) (.int .i64 0)); (have b2 : KB1 bc w ((wr.setCell ⟨w.heap.size + 1, 0, none⟩ (.int .i64 0)).setCell ⟨w.heap.size + 1, 1, none⟩ (.int .i64 0)) := (HKwr.out.setCell (p := ⟨w.heap.size + 1, 0, none⟩) (fun h => absurd h (Nat.not_lt.2 (Nat.le_succ _))) _).setCell (p := ⟨w.heap.size + 1, 1, none⟩) (fun h => absurd h (Nat.not_lt.2 (Nat.le_succ _))) _); generalize World.setCell _ _ _ = F at f2 b2 hC3 ⊢; clear y0 y1 y2 y3; obtain ⟨k1, k2, -⟩ := blk2 f2; (exact bodyPost_ret (v := .agg #[.int .i64 0, .int .i64 0]) (by simp [results, Try.results73, go_sem, k1, k2]) rfl ⟨by rw [HT2.out], by rw [HT2.out]; exact hC3, b2⟩)
    · rw [if_pos hsc0] at hld
      rw [hld]; (have hscJ : (sc != 0) = true := by simpa using hsc0)
      go_enter Try.func73, Try.ntmps73
      go_wp2_with fail; refine HSC.out.mono ?_; rintro e w3 ⟨rfl, hb3⟩; have q1 := below_keep hb3 HW1.out; obtain ⟨y0, y1, y2, y3⟩ := blk2 q1; clear i0 i1 i2 i3 f2 f3 j0 j1 j2 j3 j4 j5 j6; go_wp2_with fail; have f2 := set2 q1 (.int .i64 sc) (.int .i64 (s : Nat)); (have hC3 := ck_other (ck_other (ck_below HCW.out hb3) (p := ⟨w.heap.size + 1, 0, none⟩) (by simpa using d4) (.int .i64 sc)) (p := ⟨w.heap.size + 1, 1, none⟩) (by simpa using d4) (.int .i64 (s : Nat))); (have b2 : KB1 bc w ((w3.setCell ⟨w.heap.size + 1, 0, none⟩ (.int .i64 sc)).setCell ⟨w.heap.size + 1, 1, none⟩ (.int .i64 (s : Nat))) := ((HKW.out.trans (kb_below hb3)).setCell (p := ⟨w.heap.size + 1, 0, none⟩) (fun h => absurd h (Nat.not_lt.2 (Nat.le_succ _))) _).setCell (p := ⟨w.heap.size + 1, 1, none⟩) (fun h => absurd h (Nat.not_lt.2 (Nat.le_succ _))) _); generalize World.setCell _ _ _ = F at f2 b2 hC3 ⊢; clear y0 y1 y2 y3; obtain ⟨k1, k2, -⟩ := blk2 f2; (exact bodyPost_ret (v := .agg #[.int .i64 sc, .int .i64 (s : Nat)]) (by simp [results, Try.results73, go_sem, k1, k2]) rfl ⟨rfl, hC3, b2⟩)
theorem plook_all (i : Bool) : ∀ m, PLookP i m
  | 0 => fun _ _ _ _ _ _ _ _ _ h => absurd h (Nat.not_lt_zero _)
  | m + 1 => plook_step i m (plook_all i m)
end Go.Proofs.Ytmahgfgndfcmpab
/- Walks: Cuts, Check. -/
namespace Go.Proofs.Ytmahgfgndfcmpab
open Go.RowKit Go.Maps Go.WideMaps

/-- What Cuts answers. -/
def cutsL (i : Bool) (p : Pf) : Int × Int × Int := if (look i p 1 0 0).1.1 ≠ 0 then (0, (look i p 1 0 0).1.1, (look i p 1 0 0).1.2) else (((look i p 1 0 0).2.2 : Nat), 0, 0)

set_option maxRecDepth 10000 in
set_option maxHeartbeats 8000000 in
theorem cuts_any (i : Bool) (p : Pf) (hsm : SmallP p) (v : Value) (w : World) (hv : PRep w p v) :
    Calls Try.prog 55 #[v, .bool i] w fun e w' => e = .returned (.tuple #[.int .i64 (cutsL i p).1, .agg #[.int .i64 (cutsL i p).2.1, .int .i64 (cutsL i p).2.2]]) ∧ Below w.heap.size w w' := by
  (have hlk := fun (v : Value) (w0 w : World) (bc mm : Nat) h1 h2 h3 h4 h5 => plook_all i (p.size + 1) p v w0 w bc mm 1 0 0 (Nat.lt_succ_self _) hsm h1 h2 h3 h4 h5 (by omega) (by omega) (by omega)); (have hcl : cutsL i p = if (look i p 1 0 0).1.1 ≠ 0 then (0, (look i p 1 0 0).1.1, (look i p 1 0 0).1.2) else ((((look i p 1 0 0).2.2 : Nat) : Int), 0, 0) := rfl); (have hle := look_le i p 1 0 0 (by omega) (by omega)); generalize look i p 1 0 0 = lk at *; generalize cutsL i p = cl at *; obtain ⟨⟨lc, la⟩, ls, lcu⟩ := lk; (have HLK : Hid (∀ (v : Value) (w0 w : World) (bc mm : Nat), PRep w0 p v → RulesAt i w0 mm → Below w0.heap.size w0 w → w0.heap.size ≤ bc → Ck w bc i mm 0 0 → Calls Try.prog 73 #[.pointer (some ⟨bc, 0, none⟩), v, .int .i64 1] w fun e w' => e = .returned (.agg #[.int .i64 lc, .int .i64 la]) ∧ Ck w' bc i mm ls lcu ∧ KB1 bc w w') := hlk); obtain ⟨a, ⟨k, n, kf⟩, l, r, ks⟩ := p; have HV : Hid (PRep w (.mk a (.mk k n kf) l r ks) v) := hv; obtain ⟨sf, cf, al, cl', ar, cr, sl, cap, rfl, -⟩ := hv.parts; clear hlk hv hsm hle; obtain ⟨O, hO⟩ : ∃ O, O = Obj.cells #[.string a, .int .i64 k, .string n, .slice sf kf.length cf, .slice al l.length cl', .slice ar r.length cr, .slice sl ks.length cap] 62 (0, 0) := ⟨_, rfl⟩; have B0 : Below w.heap.size w ((w.alloc O).alloc (.cells #[.int .i64 0, .int .i64 0] 25 (0, 0))) := below_more (below_more (Below.refl _ w) _) _
  go_enter Try.func55, Try.ntmps55
  go_wp2_with fail; rw [← hO]; refine (rules_any i _).mono ?_; rintro e w1 ⟨mm, rfl, hru, hb1⟩; have B1 := below_join B0 hb1; have HRU : Hid (RulesAt i w1 mm) := hru; have q0 := below_keep hb1 (alloc_keep (blk_new w O) (.cells #[.int .i64 0, .int .i64 0] 25 (0, 0))); rw [hO] at q0; have q1 := below_keep hb1 (blk_two w O (.cells #[.int .i64 0, .int .i64 0] 25 (0, 0))); have HQ0 : Hid (w1.heap[w.heap.size]? = some _) := q0; have HQ1 : Hid (w1.heap[w.heap.size + 1]? = some _) := q1; obtain ⟨j0, j1, j2, j3, j4, j5, j6⟩ := blk7 q0; have z1 := lt_of_block q1; have z0 := lt_of_block q0; (have e0 : ¬ w.heap.size = w1.heap.size := by omega); (have e00 : ¬ w1.heap.size = w.heap.size := by omega); clear hru q0 q1 hb1 hO; go_wp2_with fail; refine (HLK.out _ w1 _ w1.heap.size mm (PRep.up B1 _ _ HV.out) HRU.out (below_more (Below.refl _ w1) _) (Nat.le_refl _) (blk_new w1 _)).mono ?_; rintro e w2 ⟨rfl, hck2, hkb2⟩; have HC2 : Hid (Ck w2 w1.heap.size i mm ls lcu) := hck2; have hB2 : Below w1.heap.size w1 w2 := kb_base (below_more (Below.refl _ w1) _) (Nat.le_refl _) hkb2; have HB2 : Hid (Below w.heap.size w w2) := below_join B1 hB2; have q1 := below_keep hB2 HQ1.out; have HR1 : Hid (w2.heap[w.heap.size + 1]? = some _) := q1; obtain ⟨y0, y1, y2, y3⟩ := blk2 q1; obtain ⟨i0, i1, i2, i3, -⟩ := blk4 (show w2.heap[w1.heap.size]? = _ from hck2); have z2 := lt_of_block q1; have z3 := ck_lt hck2; (have e1 : ¬ w2.heap.size = w.heap.size + 1 := by omega); (have e2 : ¬ w.heap.size + 1 = w2.heap.size := by omega); (have e3 : ¬ w2.heap.size = w1.heap.size := by omega); (have e4 : ¬ w1.heap.size = w.heap.size + 1 := by omega); (have e5 : ¬ w1.heap.size = w2.heap.size := by omega); clear hck2 hkb2 j0 j1 j2 j3 j4 j5 j6 hB2 q1; by_cases hl0 : lc = 0
  · subst hl0
    (rw [if_neg (fun h => h rfl)] at hcl); have HE : Hid (cl = _) := hcl; clear hcl; go_wp2_with fail; have f2 := set2 HR1.out (.int .i64 0) (.int .i64 0); (have b2 := (HB2.out.setCell (p := ⟨w.heap.size + 1, 0, none⟩) (by simp) (.int .i64 0)).setCell (p := ⟨w.heap.size + 1, 1, none⟩) (by simp) (.int .i64 0)); (have hsz : ((w2.setCell ⟨w.heap.size + 1, 0, none⟩ (.int .i64 0)).setCell ⟨w.heap.size + 1, 1, none⟩ (.int .i64 0)).heap.size = w2.heap.size := by simp [World.setCell]); generalize World.setCell _ _ _ = F at f2 b2 hsz ⊢; clear y0 y1 y2 y3; obtain ⟨k1, k2, -⟩ := blk2 f2; have d9 : w.heap.size + 1 < F.heap.size := lt_of_block f2; (exact bodyPost_ret (v := .tuple #[.int .i64 (lcu : Nat), .agg #[.int .i64 0, .int .i64 0]]) (by simp [results, Try.results55, go_sem, k1, k2, d9]) rfl ⟨by rw [HE.out], below_more b2 _⟩)
  · rw [if_pos hl0] at hcl
    have HE : Hid (cl = _) := hcl; (have hlJ : (lc != 0) = true := by simpa using hl0); clear hcl; go_wp2_with fail
    go_region
    go_wp2_with fail; have f2 := set2 HR1.out (.int .i64 lc) (.int .i64 la); (have b2 := (HB2.out.setCell (p := ⟨w.heap.size + 1, 0, none⟩) (by simp) (.int .i64 lc)).setCell (p := ⟨w.heap.size + 1, 1, none⟩) (by simp) (.int .i64 la)); (have hsz : ((w2.setCell ⟨w.heap.size + 1, 0, none⟩ (.int .i64 lc)).setCell ⟨w.heap.size + 1, 1, none⟩ (.int .i64 la)).heap.size = w2.heap.size := by simp [World.setCell]); generalize World.setCell _ _ _ = F at f2 b2 hsz ⊢; clear y0 y1 y2 y3; obtain ⟨k1, k2, -⟩ := blk2 f2; have d9 : w.heap.size + 1 < F.heap.size := lt_of_block f2; (exact bodyPost_ret (v := .tuple #[.int .i64 0, .agg #[.int .i64 lc, .int .i64 la]]) (by simp [results, Try.results55, go_sem, k1, k2, d9]) rfl ⟨by rw [HE.out], (below_more b2 _).drew⟩)

set_option maxHeartbeats 2000000 in
theorem pcheck_any (i : Bool) (p : Pf) (hsm : SmallP p) (v : Value) (w : World) (hv : PRep w p v) :
    Calls Try.prog 30 #[v, .bool i] w fun e w' => e = .returned (.agg #[.int .i64 (look i p 1 0 0).1.1, .int .i64 (if (look i p 1 0 0).1.1 ≠ 0 then (look i p 1 0 0).1.2 else 0)]) ∧ Below w.heap.size w w' := by
  (have hcu := fun v (w : World) h => cuts_any i p hsm v w h)
  have hcl : (cutsL i p).2 = ((look i p 1 0 0).1.1, if (look i p 1 0 0).1.1 ≠ 0 then (look i p 1 0 0).1.2 else 0) := by
    unfold cutsL; by_cases h : (look i p 1 0 0).1.1 = 0
    · rw [if_neg (fun h' => h' h), if_neg (fun h' => h' h), h]
    · rw [if_pos h, if_pos h]
  generalize cutsL i p = cl at *; obtain ⟨x1, x2, x3⟩ := cl; generalize (look i p 1 0 0).1.1 = lc at *; (generalize (if lc ≠ 0 then (look i p 1 0 0).1.2 else 0) = la at *); simp only [Prod.mk.injEq] at hcl; obtain ⟨rfl, rfl⟩ := hcl; obtain ⟨a, ⟨k, n, kf⟩, l, r, ks⟩ := p; have HV : Hid (PRep w (.mk a (.mk k n kf) l r ks) v) := hv; obtain ⟨sf, cf, al, cl', ar, cr, sl, cap, rfl, -⟩ := hv.parts; have HCU : Hid (∀ v w, PRep w (.mk a (.mk k n kf) l r ks) v → Calls Try.prog 55 #[v, .bool i] w _) := hcu; clear hcu hv hsm
  go_enter Try.func30, Try.ntmps30
  go_wp2_with fail; refine (HCU.out _ _ (PRep.up (below_more (below_more (Below.refl _ w) _) _) _ _ HV.out)).mono ?_; rintro e w1 ⟨rfl, hb1⟩; have B1 := below_join (below_more (below_more (Below.refl _ w) _) _) hb1; have q1 := below_keep hb1 (blk_two w _ _); obtain ⟨y0, y1, y2, y3⟩ := blk2 q1; have z1 := lt_of_block q1; (have e1 : ¬ w1.heap.size = w.heap.size + 1 := by omega); (have e2 : ¬ w.heap.size + 1 = w1.heap.size := by omega); go_wp2_with fail; have f2 := set2 q1 (.int .i64 x2) (.int .i64 x3); (have b2 := (B1.setCell (p := ⟨w.heap.size + 1, 0, none⟩) (by simp) (.int .i64 x2)).setCell (p := ⟨w.heap.size + 1, 1, none⟩) (by simp) (.int .i64 x3)); (have hsz : ((w1.setCell ⟨w.heap.size + 1, 0, none⟩ (.int .i64 x2)).setCell ⟨w.heap.size + 1, 1, none⟩ (.int .i64 x3)).heap.size = w1.heap.size := by simp [World.setCell]); generalize World.setCell _ _ _ = F at f2 b2 hsz ⊢; clear y0 y1 y2 y3; obtain ⟨k1, k2, -⟩ := blk2 f2; have d9 : w.heap.size + 1 < F.heap.size := lt_of_block f2; (exact bodyPost_ret (v := .agg #[.int .i64 x2, .int .i64 x3]) (by simp [results, Try.results30, go_sem, k1, k2, d9]) rfl ⟨rfl, below_more b2 _⟩)
end Go.Proofs.Ytmahgfgndfcmpab
/- Walks: VastProof. -/
namespace Go.Proofs.Ytmahgfgndfcmpab
open Go.RowKit

theorem SmallP.mk {a : ByteArray} {f : Fm} {l r : List Fm} {ks : List Pf} (h1 : l.length ≤ 300) (h2 : r.length ≤ 300) (h3 : ks.length ≤ 1200) (h4 : ∀ k ∈ ks, SmallP k) : SmallP (.mk a f l r ks) := fun n => by
  cases n with
  | zero => trivial
  | succ n => exact ⟨h1, h2, h3, fun k hk => h4 k hk n⟩

def IsVP (p : Pf) (e : Ending) : Prop := ∃ b, e = .returned (.bool b) ∧ (b = false → SmallP p)
def PVastP (m : Nat) : Prop := ∀ (p : Pf) (d : Nat) (v : Value) (w : World), p.size < m → d ≤ 1201 → PRep w p v → Calls Try.prog 29 #[v, .int .i64 (d : Nat)] w fun e w' => IsVP p e ∧ Below w.heap.size w w'

set_option maxRecDepth 10000 in
set_option maxHeartbeats 8000000 in
theorem pvast_step (m : Nat) (ih : PVastP m) : PVastP (m + 1) := by
  intro p d v w hm hd hv; obtain ⟨a, ⟨k, n, kf⟩, l, r, ks⟩ := p; obtain ⟨sf, cf, al, cl, ar, cr, sl, cap, rfl, ha, hf, hl, hr, hkc, hcm, hks⟩ := hv.parts; (have HF : Hid (Rep w (fun _ => True) (.mk k n kf) _) := hf); obtain ⟨_, _, hve, hl1, hl2, hl3⟩ := hl; simp only [Value.slice.injEq, true_and] at hve; obtain ⟨rfl, rfl⟩ := hve; obtain ⟨_, _, hve, hr1, hr2, hr3⟩ := hr; simp only [Value.slice.injEq, true_and] at hve; obtain ⟨rfl, rfl⟩ := hve; (have HL3 : Hid (l ≠ [] → ∃ b off, al = some ⟨b, off, none⟩ ∧ Reps w (fun _ => True) b off l) := hl3); (have HR3 : Hid (r ≠ [] → ∃ b off, ar = some ⟨b, off, none⟩ ∧ Reps w (fun _ => True) b off r) := hr3); have HKS : Hid (ks ≠ [] → ∃ b off, sl = some ⟨b, off, none⟩ ∧ PReps w b off ks) := hks; (have hlI : (l.length : Int) ≤ 9223372036854775807 := by unfold maxLen at hl2; omega); (have hrI : (r.length : Int) ≤ 9223372036854775807 := by unfold maxLen at hr2; omega); (have hkI : (ks.length : Int) ≤ 9223372036854775807 := by unfold maxLen at hcm; omega); (have hdI : (d : Int) ≤ 1201 := by omega); have HIH : Hid (PVastP m) := ih; (have HM : Hid (Pf.sizes ks < m) := by have : Pf.sizes ks + 1 < m + 1 := hm; show _ < _; omega); obtain ⟨O, hO⟩ : ∃ O, O = Obj.cells #[.string a, .int .i64 k, .string n, .slice sf kf.length cf, .slice al l.length cl, .slice ar r.length cr, .slice sl ks.length cap] 62 (0, 0) := ⟨_, rfl⟩; have B0 := below_more (Below.refl _ w) O; (have hva := fun v (w : World) h => vast2_any (.mk k n kf) v w h); (have HVA : Hid (∀ v w, Rep w (fun _ => True) (.mk k n kf) v → Calls Try.prog 13 #[v, .int .i64 0] w _) := hva)
  have HVX : Hid (∀ (f : Fm) v w, Rep w (fun _ => True) f v → Calls Try.prog 13 #[v, .int .i64 0] w fun e w' => ∃ b, e = .returned (.bool b) ∧ Below w.heap.size w w') := fun f v w h => by
    refine (vast2_any f v w h).mono ?_; rintro e w' ⟨⟨b, rfl, -⟩, hb⟩; exact ⟨b, rfl, hb⟩
  clear hf hl3 hr3 hks hv ih hm hva hl2 hr2 hcm ha; by_cases h1 : 1200 < d
  · have h1I : (1200 : Int) < (d : Int) := by omega
    subst hO
    go_enter Try.func29, Try.ntmps29
    go_wp2_with fail; go_ret; (exact ⟨⟨true, rfl, fun h => (by cases h)⟩, B0⟩)
  (have h1I : ¬ (1200 : Int) < (d : Int) := by omega); by_cases h2 : 1200 < ks.length
  · have h2I : (1200 : Int) < (ks.length : Int) := by omega
    subst hO
    go_enter Try.func29, Try.ntmps29
    go_wp2_with fail; go_ret; (exact ⟨⟨true, rfl, fun h => (by cases h)⟩, B0⟩)
  (have h2I : ¬ (1200 : Int) < (ks.length : Int) := by omega); by_cases h3 : 300 < l.length
  · have h3I : (300 : Int) < (l.length : Int) := by omega
    subst hO
    go_enter Try.func29, Try.ntmps29
    go_wp2_with fail; go_ret; (exact ⟨⟨true, rfl, fun h => (by cases h)⟩, B0⟩)
  (have h3I : ¬ (300 : Int) < (l.length : Int) := by omega); by_cases h4 : 300 < r.length
  · have h4I : (300 : Int) < (r.length : Int) := by omega
    subst hO
    go_enter Try.func29, Try.ntmps29
    go_wp2_with fail; go_ret; (exact ⟨⟨true, rfl, fun h => (by cases h)⟩, B0⟩)
  (have h4I : ¬ (300 : Int) < (r.length : Int) := by omega); (have HSM : Hid ((∀ k ∈ ks, SmallP k) → SmallP (.mk a (.mk k n kf) l r ks)) := fun h => SmallP.mk (by omega) (by omega) (by omega) h); (have hd2 : d + 1 ≤ 1201 := by omega); have P0 := blk_new w O; (have HP0 : Hid ((w.alloc O).heap[w.heap.size]? = some (.cells #[.string a, .int .i64 k, .string n, .slice sf kf.length cf, .slice al l.length cl, .slice ar r.length cr, .slice sl ks.length cap] 62 (0, 0))) := by rw [← hO]; exact P0); clear P0 h1 h2 h3 h4
  go_enter Try.func29, Try.ntmps29
  go_wp2_with fail; rw [← hO]; refine (HVX.out _ _ _ (HF.out.up B0)).mono ?_; rintro e w1 ⟨b1, rfl, hb1⟩; have HB1 : Hid (Below w.heap.size w w1) := below_join B0 hb1; have HQ1 : Hid (w1.heap[w.heap.size]? = some _) := below_keep hb1 HP0.out; clear hb1 hO HP0
  cases b1
  case true =>
    go_wp2_with fail; go_ret; (exact ⟨⟨true, rfl, fun h => (by cases h)⟩, HB1.out⟩)
  case false =>
    go_wp2_with fail
    go_loopg [5] l.length (fun g cc wr => ∃ j, j ≤ l.length ∧ g = l.length - j ∧ cc = .int .i64 (j : Nat) ∧ Hid (Below w.heap.size w wr) ∧ Hid (Below w1.heap.size w1 wr))
    case atStart => exact ⟨0, by omega, by omega, rfl, HB1, Below.refl _ _⟩
    case round =>
      obtain ⟨j, hj, hg, rfl, HBr, HBr1⟩ := hrel; have HG : Hid (gk = l.length - j) := hg; clear hg; obtain ⟨j0, j1, j2, j3, j4, j5, j6⟩ := blk7 (below_keep HBr1.out HQ1.out); by_cases hlt : j < l.length
      · obtain ⟨⟨k2, n2, ks2⟩, hki⟩ : ∃ f, l[j]? = some f := ⟨_, List.getElem?_eq_getElem hlt⟩
        (obtain ⟨b, off, rfl, hrs⟩ := HL3.out (fun e => by rw [e] at hlt; simp at hlt)); obtain ⟨sl2, cap2, g0, g1, g2, hrep2⟩ := (hrs.up HBr.out).at j k2 n2 ks2 hki; (have hltI : (j : Int) < (l.length : Int) := by omega); (have hlc : (j : Int) < (cl : Int) := by omega); clear hki hrs; go_wp2_with fail; refine (HVX.out _ _ _ hrep2).mono ?_; rintro e w2 ⟨b2, rfl, hb2⟩; have HB2 : Hid (Below w.heap.size w w2) := below_join HBr.out hb2; have HB3 : Hid (Below w1.heap.size w1 w2) := below_join HBr1.out hb2; clear g0 g1 g2 hb2 hrep2 j0 j1 j2 j3 j4 j5 j6
        cases b2
        · go_wp2_with fail
          go_roundg (l.length - (j + 1))
          case measure => have := HG.out; omega
          case rel => exact ⟨j + 1, by omega, rfl, by go_num, HB2, HB3⟩
        · go_wp2_with fail
          go_ret; (exact ⟨⟨true, rfl, fun h => (by cases h)⟩, HB2.out⟩)
      · have hge : ¬ (j : Int) < (l.length : Int) := by omega
        go_wp2_with fail; have HBA : Hid (Below w.heap.size w wr) := HBr; obtain ⟨wA, hwA⟩ : ∃ wA, wA = wr := ⟨_, rfl⟩; subst hwA; have HQA : Hid (wA.heap[w.heap.size]? = some _) := below_keep HBr1.out HQ1.out; clear HBr HBr1 j0 j1 j2 j3 j4 j5 j6 hge
        go_loopg [6] r.length (fun g cc wr => ∃ j, j ≤ r.length ∧ g = r.length - j ∧ cc = .int .i64 (j : Nat) ∧ Hid (Below w.heap.size w wr) ∧ Hid (Below wA.heap.size wA wr))
        case atStart => exact ⟨0, by omega, by omega, rfl, HBA, Below.refl _ _⟩
        case round =>
          obtain ⟨j, hj, hg, rfl, HBr, HBr1⟩ := hrel; have HG : Hid (gk = r.length - j) := hg; clear hg; obtain ⟨j0, j1, j2, j3, j4, j5, j6⟩ := blk7 (below_keep HBr1.out HQA.out); by_cases hlt : j < r.length
          · obtain ⟨⟨k2, n2, ks2⟩, hki⟩ : ∃ f, r[j]? = some f := ⟨_, List.getElem?_eq_getElem hlt⟩
            (obtain ⟨b, off, rfl, hrs⟩ := HR3.out (fun e => by rw [e] at hlt; simp at hlt)); obtain ⟨sl2, cap2, g0, g1, g2, hrep2⟩ := (hrs.up HBr.out).at j k2 n2 ks2 hki; (have hltI : (j : Int) < (r.length : Int) := by omega); (have hlc : (j : Int) < (cr : Int) := by omega); clear hki hrs; go_wp2_with fail; refine (HVX.out _ _ _ hrep2).mono ?_; rintro e w2 ⟨b2, rfl, hb2⟩; have HB2 : Hid (Below w.heap.size w w2) := below_join HBr.out hb2; have HB3 : Hid (Below wA.heap.size wA w2) := below_join HBr1.out hb2; clear g0 g1 g2 hb2 hrep2 j0 j1 j2 j3 j4 j5 j6
            cases b2
            · go_wp2_with fail
              go_roundg (r.length - (j + 1))
              case measure => have := HG.out; omega
              case rel => exact ⟨j + 1, by omega, rfl, by go_num, HB2, HB3⟩
            · go_wp2_with fail
              go_ret; (exact ⟨⟨true, rfl, fun h => (by cases h)⟩, HB2.out⟩)
          · have hge : ¬ (j : Int) < (r.length : Int) := by omega
            go_wp2_with fail; have HBB : Hid (Below w.heap.size w wr) := HBr; obtain ⟨wB, hwB⟩ : ∃ wB, wB = wr := ⟨_, rfl⟩; subst hwB; have HQB : Hid (wB.heap[w.heap.size]? = some _) := below_keep HBr1.out HQA.out; clear HBr HBr1 j0 j1 j2 j3 j4 j5 j6 hge
            go_loopg [7] ks.length (fun g cc wr => ∃ j, j ≤ ks.length ∧ g = ks.length - j ∧ cc = .int .i64 (j : Nat) ∧ Hid (Below w.heap.size w wr) ∧ Hid (Below wB.heap.size wB wr) ∧ Hid (∀ k ∈ ks.take j, SmallP k))
            case atStart => exact ⟨0, by omega, by omega, rfl, HBB, Below.refl _ _, fun k hk => by simp at hk⟩
            case round =>
              obtain ⟨j, hj, hg, rfl, HBr, HBr1, HN⟩ := hrel; have HG : Hid (gk = ks.length - j) := hg; clear hg; obtain ⟨j0, j1, j2, j3, j4, j5, j6⟩ := blk7 (below_keep HBr1.out HQB.out); by_cases hlt : j < ks.length
              · obtain ⟨⟨ka, ⟨kk, kn, kkf⟩, kl, kr, kks⟩, hki⟩ : ∃ f, ks[j]? = some f := ⟨_, List.getElem?_eq_getElem hlt⟩
                (obtain ⟨b, off, rfl, hrs⟩ := HKS.out (fun e => by rw [e] at hlt; simp at hlt)); obtain ⟨sf2, cf2, al2, cl2, ar2, cr2, sl2, cap2, x0, x1, x2, x3, x4, x5, x6, hrep⟩ := (PReps.up HBr.out b off ks hrs).at j ka kk kn kkf kl kr kks hki; (have hltI : (j : Int) < (ks.length : Int) := by omega); (have hlc : (j : Int) < (cap : Int) := by omega); (have hih := fun (v : Value) (wx : World) h => HIH.out (.mk ka (.mk kk kn kkf) kl kr kks) (d + 1) v wx (Nat.lt_of_le_of_lt (pfsizes_get hki) HM.out) hd2 h); have HI : Hid (∀ v wx, PRep wx (.mk ka (.mk kk kn kkf) kl kr kks) v → Calls Try.prog 29 #[v, .int .i64 ((d + 1 : Nat) : Int)] wx _) := hih
                have HTk : Hid (SmallP (.mk ka (.mk kk kn kkf) kl kr kks) → ∀ k ∈ ks.take (j + 1), SmallP k) := fun hs k hk => by
                  rw [List.take_add_one, hki] at hk
                  rcases List.mem_append.1 hk with h | h
                  · exact HN.out k h
                  · simp at h; subst h; exact hs
                have HRp : Hid (PRep wr _ _) := hrep; clear hki hrs hih hrep HN; go_wp2_with fail; refine (HI.out _ _ HRp.out).mono ?_; rintro e w2 ⟨⟨b2, rfl, hs2⟩, hb2⟩; have HB2 : Hid (Below w.heap.size w w2) := below_join HBr.out hb2; have HB3 : Hid (Below wB.heap.size wB w2) := below_join HBr1.out hb2; have HS2 : Hid (b2 = false → SmallP _) := hs2; clear x0 x1 x2 x3 x4 x5 x6 hb2 hs2 j0 j1 j2 j3 j4 j5 j6
                cases b2
                · have HX := HTk.out (HS2.out rfl)
                  have HX' : Hid (∀ k ∈ ks.take (j + 1), SmallP k) := HX; clear HX HTk HS2; go_wp2_with fail
                  go_roundg (ks.length - (j + 1))
                  case measure => have := HG.out; omega
                  case rel => exact ⟨j + 1, by omega, rfl, by go_num, HB2, HB3, HX'⟩
                · clear HTk HS2
                  go_wp2_with fail; go_ret; (exact ⟨⟨true, rfl, fun h => (by cases h)⟩, HB2.out⟩)
              · have hge : ¬ (j : Int) < (ks.length : Int) := by omega
                have HX : Hid (SmallP (.mk a (.mk k n kf) l r ks)) := HSM.out (by
                  have := HN.out
                  rwa [List.take_of_length_le (by omega)] at this)
                clear HN; go_wp2_with fail; go_ret; (exact ⟨⟨false, rfl, fun _ => HX.out⟩, HBr.out⟩)
theorem pvast_all : ∀ m, PVastP m
  | 0 => fun _ _ _ _ h => absurd h (Nat.not_lt_zero _)
  | m + 1 => pvast_step m (pvast_all m)
theorem pvast_any (p : Pf) (v : Value) (w : World) (hv : PRep w p v) : Calls Try.prog 29 #[v, .int .i64 0] w fun e w' => IsVP p e ∧ Below w.heap.size w w' :=
  pvast_all (p.size + 1) p 0 v w (Nat.lt_succ_self _) (by omega) hv
end Go.Proofs.Ytmahgfgndfcmpab
/- Walks: As. -/
namespace Go.Proofs.Ytmahgfgndfcmpab
open Go.RowKit

def allF (l : List Fm) : Fm := l.foldl (fun a f => .mk 5 ⟨#[]⟩ [a, f]) (.mk 2 ⟨#[]⟩ [])
def someF (l : List Fm) : Fm := l.foldl (fun a f => .mk 6 ⟨#[]⟩ [a, f]) (.mk 3 ⟨#[]⟩ [])
def asF (l r : List Fm) : Fm := .mk 7 ⟨#[]⟩ [allF l, someF r]
theorem allF_snoc {l : List Fm} {i : Nat} {f : Fm} (h : l[i]? = some f) : allF (l.take (i + 1)) = .mk 5 ⟨#[]⟩ [allF (l.take i), f] := by
  unfold allF; rw [List.take_add_one, h]
  simp
theorem someF_snoc {l : List Fm} {i : Nat} {f : Fm} (h : l[i]? = some f) : someF (l.take (i + 1)) = .mk 6 ⟨#[]⟩ [someF (l.take i), f] := by
  unfold someF; rw [List.take_add_one, h]
  simp

/-- A formula in a block of its own. -/
def RepAt (w : World) (ok : Nat → Prop) (b : Nat) (f : Fm) : Prop := ∃ k n ks sl cap, f = .mk k n ks ∧ w.heap[b]? = some (.cells #[.int .i64 k, .string n, .slice sl ks.length cap] 37 (0, 0)) ∧ Rep w ok (.mk k n ks) (.agg #[.int .i64 k, .string n, .slice sl ks.length cap])
def put3 (w : World) (b : Nat) (y0 y1 y2 : Value) : World := ((w.setCell ⟨b, 0, none⟩ y0).setCell ⟨b, 1, none⟩ y1).setCell ⟨b, 2, none⟩ y2
theorem put3_blk {w : World} {b : Nat} {x0 x1 x2 : Value} {T : TypeId} (h : w.heap[b]? = some (.cells #[x0, x1, x2] T (0, 0))) (y0 y1 y2 : Value) : (put3 w b y0 y1 y2).heap[b]? = some (.cells #[y0, y1, y2] T (0, 0)) := by
  simp [put3, World.setCell, Array.getElem?_modify, h]
theorem put3_other {w : World} {b i : Nat} (h : i ≠ b) (y0 y1 y2 : Value) : (put3 w b y0 y1 y2).heap[i]? = w.heap[i]? := by
  unfold put3
  repeat rw [Below.heap_setCell _ _ _ _ h]
theorem put3_size (w : World) (b : Nat) (y0 y1 y2 : Value) : (put3 w b y0 y1 y2).heap.size = w.heap.size := by simp [put3, World.setCell]
/-- The world behind a round of As. -/
def asW (wr : World) (bL : Nat) (c : Int) (O : Obj) : World := ((put3 wr bL (.int .i64 c) (.string ⟨#[]⟩) (.slice (some ⟨wr.heap.size, 0, none⟩) 2 2)).alloc O).drew
theorem asW_old {wr : World} {bL : Nat} {c : Int} {O : Obj} {b : Nat} (hb : b < wr.heap.size) (hne : b ≠ bL) : (asW wr bL c O).heap[b]? = wr.heap[b]? := by
  show ((put3 wr bL _ _ _).alloc O).heap[b]? = _; (rw [Below.heap_alloc _ _ _ (by rw [put3_size]; exact hb), put3_other hne])
theorem asW_own {wr : World} {bL : Nat} {c : Int} {O : Obj} {x0 x1 x2 : Value} {T : TypeId} (h : wr.heap[bL]? = some (.cells #[x0, x1, x2] T (0, 0))) : (asW wr bL c O).heap[bL]? = some (.cells #[.int .i64 c, .string ⟨#[]⟩, .slice (some ⟨wr.heap.size, 0, none⟩) 2 2] T (0, 0)) := by
  show ((put3 wr bL _ _ _).alloc O).heap[bL]? = _; exact alloc_keep (put3_blk h _ _ _) _
theorem asW_new {wr : World} {bL : Nat} {c : Int} {O : Obj} : (asW wr bL c O).heap[wr.heap.size]? = some O := by
  have := blk_new (put3 wr bL (.int .i64 c) (.string ⟨#[]⟩) (.slice (some ⟨wr.heap.size, 0, none⟩) 2 2)) O; rw [put3_size] at this; exact this
theorem asW_size {wr : World} {bL : Nat} {c : Int} {O : Obj} : (asW wr bL c O).heap.size = wr.heap.size + 1 := by
  show ((put3 wr bL _ _ _).alloc O).heap.size = _; simp [put3_size]
theorem asW_below {w wr : World} {bL : Nat} {c : Int} {O : Obj} (h : Below w.heap.size w wr) (hb : w.heap.size ≤ bL) : Below w.heap.size w (asW wr bL c O) :=
  (below_more (((h.setCell (p := ⟨bL, 0, none⟩) hb _).setCell (p := ⟨bL, 1, none⟩) hb _).setCell (p := ⟨bL, 2, none⟩) hb _) O).drew

/-- A round of As: the formula in block bL, and one more, become one. -/
theorem as_round {ok : Nat → Prop} {wr : World} {bL : Nat} {kA : Int} {nA : ByteArray} {ksA : List Fm} {slA : Option Addr} {capA : Nat} {k2 : Int} {n2 : ByteArray} {ks2 : List Fm} {sl2 : Option Addr} {cap2 : Nat} {y0 y1 y2 : Value} (c : Int)
    (hL : wr.heap[bL]? = some (.cells #[y0, y1, y2] 37 (0, 0))) (hA : Rep wr ok (.mk kA nA ksA) (.agg #[.int .i64 kA, .string nA, .slice slA ksA.length capA])) (h2 : Rep wr ok (.mk k2 n2 ks2) (.agg #[.int .i64 k2, .string n2, .slice sl2 ks2.length cap2]))
    (hok : ¬ ok bL) (hnew : ok wr.heap.size) (T : TypeId) :
    RepAt (asW wr bL c (.cells #[.int .i64 kA, .string nA, .slice slA ksA.length capA, .int .i64 k2, .string n2, .slice sl2 ks2.length cap2] T (0, 0))) ok bL (.mk c ⟨#[]⟩ [.mk kA nA ksA, .mk k2 n2 ks2]) := by
  (have hblk : ∀ b, b < wr.heap.size → ok b → (asW wr bL c (.cells #[.int .i64 kA, .string nA, .slice slA ksA.length capA, .int .i64 k2, .string n2, .slice sl2 ks2.length cap2] T (0, 0))).heap[b]? = wr.heap[b]? ∧ ok b := fun b hb ho => ⟨asW_old hb (fun e => hok (by rw [← e]; exact ho)), ho⟩); have hq := asW_new (wr := wr) (bL := bL) (c := c) (O := .cells #[.int .i64 kA, .string nA, .slice slA ksA.length capA, .int .i64 k2, .string n2, .slice sl2 ks2.length cap2] T (0, 0)); (refine ⟨c, ⟨#[]⟩, _, some ⟨wr.heap.size, 0, none⟩, 2, rfl, asW_own hL, Rep.def.2 ⟨_, 2, rfl, by simp [maxLen, ByteArray.size], by simp, by simp [maxLen], fun _ => ⟨wr.heap.size, 0, rfl, hnew, ?_⟩⟩⟩); exact Reps.cons.2 ⟨⟨_, _, _, blk_cell hq 0, blk_cell hq 1, blk_cell hq 2, hA.move hblk⟩, Reps.cons.2 ⟨⟨_, _, _, blk_cell hq 3, blk_cell hq 4, blk_cell hq 5, h2.move hblk⟩, Reps.nil⟩⟩

set_option maxRecDepth 10000 in
set_option maxHeartbeats 8000000 in
theorem as_any (l r : List Fm) (hl4 : l.length ≤ 400) (hr4 : r.length ≤ 400) (v u : Value) (w : World) (hv : FL w v l) (hu : FL w u r) :
    Calls Try.prog 31 #[.agg #[v, u]] w fun e w' => ∃ x, e = .returned x ∧ Rep w' (fun _ => True) (asF l r) x ∧ Below w.heap.size w w' := by
  have HL : Hid (FLp (· < w.heap.size) w v l) := hv.low; have HR : Hid (FLp (· < w.heap.size) w u r) := hu.low; obtain ⟨al, cl, rfl, hl1, -, hl3⟩ := hv; obtain ⟨ar, cr, rfl, hr1, -, hr3⟩ := hu; clear hl3 hr3; (have hlI : (l.length : Int) ≤ 400 := by omega); (have hrI : (r.length : Int) ≤ 400 := by omega); obtain ⟨O, hO⟩ : ∃ O, O = Obj.cells #[.slice al l.length cl, .slice ar r.length cr] 59 (0, 0) := ⟨_, rfl⟩
  go_enter Try.func31, Try.ntmps31
  go_wp2_with fail
  have hb0 : (((w.alloc O).alloc (.cells #[.int .i64 0, .string ⟨#[]⟩, .slice none 0 0] 37 (0, 0))).alloc (.cells #[.int .i64 2, .string ⟨#[]⟩, .slice none 0 0] 37 (0, 0))).heap[w.heap.size]? = some (.cells #[.slice al l.length cl, .slice ar r.length cr] 59 (0, 0)) := by
    rw [← hO]; exact alloc_keep (alloc_keep (blk_new w _) _) _
  go_loopg [4] l.length (fun g cc wr => ∃ j, j ≤ l.length ∧ g = l.length - j ∧ cc = .int .i64 (j : Nat) ∧ Hid (Below w.heap.size w wr) ∧ Hid (wr.heap[w.heap.size]? = some (.cells #[.slice al l.length cl, .slice ar r.length cr] 59 (0, 0))) ∧ Hid (wr.heap[w.heap.size + 1]? = some (.cells #[.int .i64 0, .string ⟨#[]⟩, .slice none 0 0] 37 (0, 0))) ∧ Hid (RepAt wr (fun b => b < w.heap.size ∨ w.heap.size + 3 ≤ b) (w.heap.size + 1 + 1) (allF (l.take j))) ∧ w.heap.size + 3 ≤ wr.heap.size)
  case atStart =>
    rw [← hO]; (exact ⟨0, by omega, by omega, rfl, below_more (below_more (below_more (Below.refl _ w) _) _) _, by rw [hO] at hb0 ⊢; exact hb0, alloc_keep (blk_two w _ _) _, ⟨2, ⟨#[]⟩, [], none, 0, rfl, blk_three w _ _ _, Rep.leaf (by simp [maxLen, ByteArray.size])⟩, by simp⟩)
  case round =>
    clear hb0 hO; obtain ⟨j, hj, hg, rfl, HBr, H0, H1, HA, hzr⟩ := hrel; have HG : Hid (gk = l.length - j) := hg; clear hg; obtain ⟨kA, nA, ksA, slA, capA, hAe, hL, hA⟩ := HA.out; have HAe : Hid (allF (l.take j) = .mk kA nA ksA) := hAe; have HLk : Hid (wr.heap[w.heap.size + 1 + 1]? = some _) := hL; have HRA : Hid (Rep wr _ (.mk kA nA ksA) _) := hA; obtain ⟨s0, s1, -⟩ := blk2 H0.out; obtain ⟨q0, q1, q2, q3, q4, q5⟩ := blk3 hL; (have e1 : ¬ w.heap.size + 1 + 1 = wr.heap.size := by omega); (have e2 : ¬ wr.heap.size = w.heap.size + 1 + 1 := by omega); (have e3 : ¬ w.heap.size = wr.heap.size := by omega); (have e6 : w.heap.size + 1 + 1 < wr.heap.size := by omega); (have e7 : w.heap.size < wr.heap.size := by omega); clear hAe hL hA HA; by_cases hlt : j < l.length
    · obtain ⟨⟨k2, n2, ks2⟩, hki⟩ : ∃ f, l[j]? = some f := ⟨_, List.getElem?_eq_getElem hlt⟩
      obtain ⟨b, off, rfl, hbA, hrs⟩ : ∃ b off, al = some ⟨b, off, none⟩ ∧ b < w.heap.size ∧ Reps w (· < w.heap.size) b off l := by
        obtain ⟨al', cl', hve, -, -, h⟩ := HL.out; simp only [Value.slice.injEq, true_and] at hve; obtain ⟨rfl, rfl⟩ := hve; (exact h (fun e => by rw [e] at hlt; simp at hlt))
      (obtain ⟨sl2, cap2, g0, g1, g2, hrep2⟩ := (reps_move (P' := (· < w.heap.size)) (fun k hk hp => ⟨HBr.out.block k hk, hp⟩) hbA hrs).at j k2 n2 ks2 hki); have HR2 : Hid (Rep wr (· < w.heap.size) (.mk k2 n2 ks2) _) := hrep2; (have hltI : (j : Int) < (l.length : Int) := by omega); (have hlc : (j : Int) < (cl : Int) := by omega)
      have HS : Hid (allF (l.take (j + 1)) = .mk 5 ⟨#[]⟩ [.mk kA nA ksA, .mk k2 n2 ks2]) := by
        show _ = _; rw [allF_snoc hki, HAe.out]
      (have e4 : ¬ b = wr.heap.size := by omega); (have e5 : ¬ b = w.heap.size + 1 + 1 := by omega); (have e8 : b < wr.heap.size := by omega); clear hki hrs hrep2; go_wp2_with fail
      go_region
      (have hR := as_round 5 HLk.out HRA.out (HR2.out.move fun b hb ho => ⟨rfl, Or.inl ho⟩) (by omega) (Or.inr hzr) 37); (have hBF := asW_below (c := 5) (O := .cells #[.int .i64 kA, .string nA, .slice slA ksA.length capA, .int .i64 k2, .string n2, .slice sl2 ks2.length cap2] 37 (0, 0)) HBr.out (bL := w.heap.size + 1 + 1) (by omega)); (have h0F := (asW_old (wr := wr) (bL := w.heap.size + 1 + 1) (c := 5) (O := .cells #[.int .i64 kA, .string nA, .slice slA ksA.length capA, .int .i64 k2, .string n2, .slice sl2 ks2.length cap2] 37 (0, 0)) (b := w.heap.size) e7 (by omega)).trans H0.out); (have h1F := (asW_old (wr := wr) (bL := w.heap.size + 1 + 1) (c := 5) (O := .cells #[.int .i64 kA, .string nA, .slice slA ksA.length capA, .int .i64 k2, .string n2, .slice sl2 ks2.length cap2] 37 (0, 0)) (b := w.heap.size + 1) (by omega) (by omega)).trans H1.out); have hzF := asW_size (wr := wr) (bL := w.heap.size + 1 + 1) (c := 5) (O := .cells #[.int .i64 kA, .string nA, .slice slA ksA.length capA, .int .i64 k2, .string n2, .slice sl2 ks2.length cap2] 37 (0, 0)); show Exit.inBlock 1 _ _ _ (asW wr (w.heap.size + 1 + 1) 5 _); generalize asW wr (w.heap.size + 1 + 1) 5 _ = F at *; have HRF : Hid (RepAt F _ _ _) := hR; have HBF : Hid (Below w.heap.size w F) := hBF; have H0F : Hid (F.heap[w.heap.size]? = some _) := h0F; have H1F : Hid (F.heap[w.heap.size + 1]? = some _) := h1F; clear hR hBF h0F h1F s0 s1 q0 q1 q2 q3 q4 q5 g0 g1 g2; go_wp2_with fail
      go_roundg (l.length - (j + 1))
      case measure => have := HG.out; omega
      case rel => exact ⟨j + 1, by omega, rfl, by go_num, HBF, H0F, H1F, by rw [HS.out]; exact HRF.out, by omega⟩
    · have hge : ¬ (j : Int) < (l.length : Int) := by omega
      have HAl : Hid (allF l = .mk kA nA ksA) := by
        have := HAe.out
        rwa [List.take_of_length_le (by omega)] at this
      obtain ⟨wA, hwA⟩ : ∃ wA, wA = wr := ⟨_, rfl⟩; subst hwA; clear HAe HG hj hlt; go_wp2_with fail; clear s0 s1 q0 q1 q2 q3 q4 q5 hge
      go_loopg [6] r.length (fun g cc wr => ∃ j, j ≤ r.length ∧ g = r.length - j ∧ cc = .int .i64 (j : Nat) ∧ Hid (Below w.heap.size w wr) ∧ Hid (wr.heap[w.heap.size]? = some (.cells #[.slice al l.length cl, .slice ar r.length cr] 59 (0, 0))) ∧ Hid (wr.heap[w.heap.size + 1]? = some (.cells #[.int .i64 0, .string ⟨#[]⟩, .slice none 0 0] 37 (0, 0))) ∧ Hid (wr.heap[w.heap.size + 1 + 1]? = some (.cells #[.int .i64 kA, .string nA, .slice slA ksA.length capA] 37 (0, 0))) ∧ Hid (Rep wr (fun b => b < w.heap.size ∨ (w.heap.size + 3 ≤ b ∧ b < wA.heap.size)) (.mk kA nA ksA) (.agg #[.int .i64 kA, .string nA, .slice slA ksA.length capA])) ∧ Hid (RepAt wr (fun b => b < w.heap.size ∨ wA.heap.size < b) wA.heap.size (someF (r.take j))) ∧ wA.heap.size < wr.heap.size)
      case atStart =>
        (exact ⟨0, by omega, by omega, rfl, below_more HBr.out _, alloc_keep H0.out _, alloc_keep H1.out _, alloc_keep HLk.out _, HRA.out.move fun b hb ho => ⟨Below.heap_alloc _ _ _ hb, ho.imp id fun h => ⟨h, hb⟩⟩, ⟨3, ⟨#[]⟩, [], none, 0, rfl, blk_new wA _, Rep.leaf (by simp [maxLen, ByteArray.size])⟩, by simp⟩)
      case round =>
        clear HBr H0 H1 HLk HRA; obtain ⟨j, hj, hg, rfl, HBr, H0, H1, HLk, HRA, HB, hzr⟩ := hrel; have HG : Hid (gk = r.length - j) := hg; clear hg; obtain ⟨kB, nB, ksB, slB, capB, hBe, hLB, hB⟩ := HB.out; have HBe : Hid (someF (r.take j) = .mk kB nB ksB) := hBe; have HLB : Hid (wr.heap[wA.heap.size]? = some _) := hLB; have HRB : Hid (Rep wr _ (.mk kB nB ksB) _) := hB; obtain ⟨s0, s1, -⟩ := blk2 H0.out; obtain ⟨q0, q1, q2, q3, q4, q5⟩ := blk3 hLB; (have f1 : ¬ wA.heap.size = wr.heap.size := by omega); (have f2 : ¬ wr.heap.size = wA.heap.size := by omega); (have f3 : ¬ w.heap.size = wr.heap.size := by omega); (have f4 : w.heap.size < wr.heap.size := by omega); (have f5 : ¬ w.heap.size = wA.heap.size := by omega); clear hBe hLB hB HB; by_cases hlt : j < r.length
        · obtain ⟨⟨k2, n2, ks2⟩, hki⟩ : ∃ f, r[j]? = some f := ⟨_, List.getElem?_eq_getElem hlt⟩
          obtain ⟨b, off, rfl, hbA, hrs⟩ : ∃ b off, ar = some ⟨b, off, none⟩ ∧ b < w.heap.size ∧ Reps w (· < w.heap.size) b off r := by
            obtain ⟨al', cl', hve, -, -, h⟩ := HR.out; simp only [Value.slice.injEq, true_and] at hve; obtain ⟨rfl, rfl⟩ := hve; (exact h (fun e => by rw [e] at hlt; simp at hlt))
          (obtain ⟨sl2, cap2, g0, g1, g2, hrep2⟩ := (reps_move (P' := (· < w.heap.size)) (fun k hk hp => ⟨HBr.out.block k hk, hp⟩) hbA hrs).at j k2 n2 ks2 hki); have HR2 : Hid (Rep wr (· < w.heap.size) (.mk k2 n2 ks2) _) := hrep2; (have hltI : (j : Int) < (r.length : Int) := by omega); (have hlc : (j : Int) < (cr : Int) := by omega)
          have HS : Hid (someF (r.take (j + 1)) = .mk 6 ⟨#[]⟩ [.mk kB nB ksB, .mk k2 n2 ks2]) := by
            show _ = _; rw [someF_snoc hki, HBe.out]
          (have f6 : ¬ b = wr.heap.size := by omega); (have f7 : ¬ b = wA.heap.size := by omega); (have f8 : b < wr.heap.size := by omega); clear hki hrs hrep2; go_wp2_with fail
          go_region
          (have hR := as_round 6 HLB.out HRB.out (HR2.out.move fun b hb ho => ⟨rfl, Or.inl ho⟩) (by omega) (Or.inr hzr) 37); (have hBF := asW_below (c := 6) (O := .cells #[.int .i64 kB, .string nB, .slice slB ksB.length capB, .int .i64 k2, .string n2, .slice sl2 ks2.length cap2] 37 (0, 0)) HBr.out (bL := wA.heap.size) (by omega)); (have hof := fun (b : Nat) (h1 : b < wr.heap.size) (h2 : b ≠ wA.heap.size) => asW_old (wr := wr) (bL := wA.heap.size) (c := 6) (O := .cells #[.int .i64 kB, .string nB, .slice slB ksB.length capB, .int .i64 k2, .string n2, .slice sl2 ks2.length cap2] 37 (0, 0)) h1 h2); have h0F := (hof w.heap.size f4 f5).trans H0.out; (have h1F := (hof (w.heap.size + 1) (by omega) (by omega)).trans H1.out); (have h2F := (hof (w.heap.size + 1 + 1) (by omega) (by omega)).trans HLk.out); (have h3F := HRA.out.move (w' := asW wr wA.heap.size 6 (.cells #[.int .i64 kB, .string nB, .slice slB ksB.length capB, .int .i64 k2, .string n2, .slice sl2 ks2.length cap2] 37 (0, 0))) (ok' := fun b => b < w.heap.size ∨ (w.heap.size + 3 ≤ b ∧ b < wA.heap.size)) fun b hb ho => ⟨hof b hb (by omega), ho⟩); have hzF := asW_size (wr := wr) (bL := wA.heap.size) (c := 6) (O := .cells #[.int .i64 kB, .string nB, .slice slB ksB.length capB, .int .i64 k2, .string n2, .slice sl2 ks2.length cap2] 37 (0, 0)); show Exit.inBlock _ _ _ _ (asW wr wA.heap.size 6 _); clear hof; generalize asW wr wA.heap.size 6 _ = F at *; have HRF : Hid (RepAt F _ _ _) := hR; have HBF : Hid (Below w.heap.size w F) := hBF; have H0F : Hid (F.heap[w.heap.size]? = some _) := h0F; have H1F : Hid (F.heap[w.heap.size + 1]? = some _) := h1F; have H2F : Hid (F.heap[w.heap.size + 1 + 1]? = some _) := h2F; have H3F : Hid (Rep F _ _ _) := h3F; clear hR hBF h0F h1F h2F h3F s0 s1 q0 q1 q2 q3 q4 q5 g0 g1 g2; go_wp2_with fail
          go_roundg (r.length - (j + 1))
          case measure => have := HG.out; omega
          case rel => exact ⟨j + 1, by omega, rfl, by go_num, HBF, H0F, H1F, H2F, H3F, by rw [HS.out]; exact HRF.out, by omega⟩
        · have hge : ¬ (j : Int) < (r.length : Int) := by omega
          have HBl : Hid (someF r = .mk kB nB ksB) := by
            have := HBe.out
            rwa [List.take_of_length_le (by omega)] at this
          obtain ⟨t0, t1, t2, -⟩ := blk3 HLk.out; obtain ⟨u0, u1, u2, u3, u4, u5⟩ := blk3 H1.out; (have f6 : w.heap.size + 1 < wr.heap.size := by omega); (have f7 : w.heap.size + 1 + 1 < wr.heap.size := by omega); (have f8 : ¬ w.heap.size + 1 = wr.heap.size := by omega); (have f9 : ¬ wr.heap.size = w.heap.size + 1 := by omega); go_wp2_with fail; (have hR := as_round (ok := fun b => b ≠ w.heap.size + 1) 7 H1.out (HRA.out.move fun b hb ho => ⟨rfl, by omega⟩) (HRB.out.move fun b hb ho => ⟨rfl, by omega⟩) (by simp) (by omega) 37); (have hBF := asW_below (c := 7) (O := .cells #[.int .i64 kA, .string nA, .slice slA ksA.length capA, .int .i64 kB, .string nB, .slice slB ksB.length capB] 37 (0, 0)) HBr.out (bL := w.heap.size + 1) (by omega)); have hzF := asW_size (wr := wr) (bL := w.heap.size + 1) (c := 7) (O := .cells #[.int .i64 kA, .string nA, .slice slA ksA.length capA, .int .i64 kB, .string nB, .slice slB ksB.length capB] 37 (0, 0)); obtain ⟨k7, n7, ks7, sl7, cap7, he7, hb7, hr7⟩ := hR; obtain ⟨G, hG⟩ : ∃ G, G = (put3 wr (w.heap.size + 1) (.int .i64 7) (.string ⟨#[]⟩) (.slice (some ⟨wr.heap.size, 0, none⟩) 2 2)).alloc (.cells #[.int .i64 kA, .string nA, .slice slA ksA.length capA, .int .i64 kB, .string nB, .slice slB ksB.length capB] 37 (0, 0)) := ⟨_, rfl⟩; (have hGd : asW wr (w.heap.size + 1) 7 (.cells #[.int .i64 kA, .string nA, .slice slA ksA.length capA, .int .i64 kB, .string nB, .slice slB ksB.length capB] 37 (0, 0)) = G.drew := by rw [hG]; rfl); rw [hGd] at hb7 hr7 hBF; have hb7' : G.heap[w.heap.size + 1]? = _ := hb7; (have hr7' := hr7.move (w' := G) (ok' := fun _ => True) fun b hb ho => ⟨rfl, trivial⟩); rw [← he7] at hr7'; have hBG : Below w.heap.size w G := ⟨hBF.os, hBF.tape, hBF.output, hBF.size, hBF.block⟩; show bodyPost _ _ _ _ _ ((put3 wr (w.heap.size + 1) _ _ _).alloc _); rw [← hG]; obtain ⟨x0, x1, x2, -⟩ := blk3 hb7'; (exact bodyPost_ret (v := .agg #[.int .i64 k7, .string n7, .slice sl7 ks7.length cap7]) (by simp [results, Try.results31, go_sem, x0, x1, x2]) rfl ⟨_, rfl, by unfold asF; rw [HAl.out, HBl.out]; exact hr7', hBG⟩)
end Go.Proofs.Ytmahgfgndfcmpab
/- A sequent as a formula, plain; walks: Tautology, InAll. -/
namespace Go.Proofs.Ytmahgfgndfcmpab
open Go.RowKit

theorem allF_cat (l : List Fm) (f : Fm) : allF (l ++ [f]) = .mk 5 ⟨#[]⟩ [allF l, f] := by unfold allF; simp
theorem someF_cat (l : List Fm) (f : Fm) : someF (l ++ [f]) = .mk 6 ⟨#[]⟩ [someF l, f] := by unfold someF; simp
theorem list_rev {P : List Fm → Prop} (h0 : P []) (h1 : ∀ l f, P l → P (l ++ [f])) (l : List Fm) : P l := by
  have : ∀ n (l : List Fm), l.length = n → P l := fun n => by
    induction n with
    | zero => intro l hl; rw [List.length_eq_zero_iff.1 hl]; exact h0
    | succ n ih =>
      intro l hl; (have hne : l ≠ [] := fun e => by rw [e] at hl; simp at hl); rw [← List.dropLast_concat_getLast hne]; (exact h1 _ _ (ih _ (by rw [List.length_dropLast]; omega)))
  exact this _ l rfl
theorem allF_fine (l : List Fm) : (∀ f ∈ l, Fine f) → Fine (allF l) := by
  (refine list_rev (P := fun l => (∀ f ∈ l, Fine f) → Fine (allF l)) (fun _ => fine_leaf 2 (Or.inl rfl)) (fun l f ih h => ?_) l); rw [allF_cat]; (exact fine_two 5 _ _ (Or.inl rfl) (ih fun g hg => h g (List.mem_append_left _ hg)) (h f (by simp)))
theorem someF_fine (l : List Fm) : (∀ f ∈ l, Fine f) → Fine (someF l) := by
  (refine list_rev (P := fun l => (∀ f ∈ l, Fine f) → Fine (someF l)) (fun _ => fine_leaf 3 (Or.inr rfl)) (fun l f ih h => ?_) l); rw [someF_cat]; (exact fine_two 6 _ _ (Or.inr (Or.inl rfl)) (ih fun g hg => h g (List.mem_append_left _ hg)) (h f (by simp)))
theorem asF_fine {l r : List Fm} (hl : ∀ f ∈ l, Fine f) (hr : ∀ f ∈ r, Fine f) : Fine (asF l r) := fine_two 7 _ _ (Or.inr (Or.inr rfl)) (allF_fine l hl) (someF_fine r hr)
theorem allF_tv (p : List UInt8 → Bool) (l : List Fm) : tv p (allF l) = l.all (tv p) := by
  (refine list_rev (P := fun l => tv p (allF l) = l.all (tv p)) (by unfold allF; exact tv_true p) (fun l f ih => ?_) l); rw [allF_cat, tv_and, ih, List.all_append]
  simp
theorem someF_tv (p : List UInt8 → Bool) (l : List Fm) : tv p (someF l) = l.any (tv p) := by
  (refine list_rev (P := fun l => tv p (someF l) = l.any (tv p)) (by unfold someF; exact tv_false p) (fun l f ih => ?_) l); rw [someF_cat, tv_or, ih, List.any_append]
  simp
theorem asF_tv {l r : List Fm} (h : Valid l r) (p : List UInt8 → Bool) : tv p (asF l r) = true := by
  unfold asF; rw [tv_then, allF_tv, someF_tv, Bool.or_eq_true]; by_cases ha : l.all (tv p) = true
  · obtain ⟨g, hg, ht⟩ := h p (List.all_eq_true.1 ha)
    exact Or.inr (List.any_eq_true.2 ⟨g, hg, ht⟩)
  · simp only [Bool.not_eq_true] at ha
    rw [ha]; exact Or.inl rfl
theorem allF_size (l : List Fm) : (∀ f ∈ l, f.size ≤ 200) → (allF l).size ≤ 1 + l.length * 201 := by
  (refine list_rev (P := fun l => (∀ f ∈ l, f.size ≤ 200) → (allF l).size ≤ 1 + l.length * 201) (fun _ => by simp [allF, Fm.size, Fm.sizes]) (fun l f ih h => ?_) l); (have h1 := ih fun g hg => h g (List.mem_append_left _ hg)); (have h2 := h f (by simp)); rw [allF_cat, Fm.size, Fm.sizes, Fm.sizes, Fm.sizes, List.length_append]
  simp
  omega
theorem someF_size (l : List Fm) : (∀ f ∈ l, f.size ≤ 200) → (someF l).size ≤ 1 + l.length * 201 := by
  (refine list_rev (P := fun l => (∀ f ∈ l, f.size ≤ 200) → (someF l).size ≤ 1 + l.length * 201) (fun _ => by simp [someF, Fm.size, Fm.sizes]) (fun l f ih h => ?_) l); (have h1 := ih fun g hg => h g (List.mem_append_left _ hg)); (have h2 := h f (by simp)); rw [someF_cat, Fm.size, Fm.sizes, Fm.sizes, Fm.sizes, List.length_append]
  simp
  omega
theorem asF_size {l r : List Fm} (hl : ∀ f ∈ l, f.size ≤ 200) (hr : ∀ f ∈ r, f.size ≤ 200) (h : l.length + r.length ≤ 60) : (asF l r).size ≤ 20000 := by
  have h1 := allF_size l hl; have h2 := someF_size r hr; unfold asF; rw [Fm.size, Fm.sizes, Fm.sizes, Fm.sizes]; omega

theorem firstBad_fine {l : List Fm} {i : Nat} (h : (firstBad l i).1 = 0) : ∀ f ∈ l, f.pcode.1 = 0 := by
  induction l generalizing i with
  | nil => intro f hf; cases hf
  | cons x l ih =>
    rw [firstBad] at h; by_cases hx : x.pcode.1 = 0
    · rw [if_pos hx] at h
      intro f hf
      rcases List.mem_cons.1 hf with rfl | hf
      · exact hx
      · exact ih h f hf
    · rw [if_neg hx] at h
      exact absurd h hx
theorem seqCode_fine {l r : List Fm} (h : (seqCode l r).1 = 0) : l.length + r.length ≤ 60 ∧ (∀ f ∈ l, f.pcode.1 = 0) ∧ ∀ f ∈ r, f.pcode.1 = 0 := by
  unfold seqCode at h; by_cases h60 : 60 < l.length + r.length
  · rw [if_pos h60] at h; cases h
  · rw [if_neg h60] at h
    have := firstBad_fine h; (exact ⟨by omega, fun f hf => this f (List.mem_append_left _ hf), fun f hf => this f (List.mem_append_right _ hf)⟩)
theorem pcode_fine {f : Fm} (h : f.pcode.1 = 0) : Fine f ∧ f.size ≤ 200 := by
  obtain ⟨s, hs⟩ := (pcode_ok h).1; exact ⟨fine_of_chk _ 0 s hs, chk_size hs⟩

theorem shl_row10 (N : Nat) (h : N ≤ 10) : wrap64 ((2 : Int) ^ N) = ((2 ^ N : Nat) : Int) ∧ 1 ≤ 2 ^ N ∧ 2 ^ N ≤ 1024 := by
  (have : N = 0 ∨ N = 1 ∨ N = 2 ∨ N = 3 ∨ N = 4 ∨ N = 5 ∨ N = 6 ∨ N = 7 ∨ N = 8 ∨ N = 9 ∨ N = 10 := by omega)
  rcases this with rfl | rfl | rfl | rfl | rfl | rfl | rfl | rfl | rfl | rfl | rfl <;> exact ⟨by unfold wrap64; decide, by decide, by decide⟩

set_option maxRecDepth 10000 in
set_option maxHeartbeats 4000000 in
theorem taut_any (f : Fm) (hf : Fine f) (hs : f.size ≤ 20000) (hn : (nmsU f).length ≤ 10) (ht : ∀ p, tv p f = true) (v : Value) (w : World) (hv : Rep w (fun _ => True) f v) :
    Calls Try.prog 56 #[v] w fun e w' => e = .returned (.bool true) ∧ Below w.heap.size w w' := by
  (have hni := fun v (w : World) h => namesIn_big f hs v w h); (have htr := fun r v u (w : World) h h' => trueR_any (rowN r (nmsU f) 0) f v u w hf h h'); (have hrw := fun r (hr : r ≤ 100000) u (w : World) h => row_any r hr (nmsU f) (by omega) u w h); simp only [ht] at htr; generalize nmsU f = U at *; obtain ⟨hw, hM1, hM2⟩ := shl_row10 U.length hn; obtain ⟨k, n, ks⟩ := f; obtain ⟨sl, cap, rfl⟩ := slice_shape hv; (have HV : Hid (Rep w (fun _ => True) (.mk k n ks) _) := hv); have HNI : Hid (∀ v w, FL w v [.mk k n ks] → Calls Try.prog 19 #[v] w _) := hni; (have HTR : Hid (∀ r v u w, Rep w (fun _ => True) (.mk k n ks) v → SL w u (rowN r U 0) → Calls Try.prog 20 #[v, u] w _) := htr); have HRW : Hid (∀ r, r ≤ 100000 → ∀ u w, SL w u U → Calls Try.prog 21 #[u, .int .i64 (r : Nat)] w _) := hrw; (have hUI : (U.length : Int) ≤ 10 := by omega); obtain ⟨M, hM⟩ : ∃ M, M = 2 ^ U.length := ⟨_, rfl⟩; rw [← hM] at hw hM1 hM2; clear hni htr hrw hv hM hf hs ht; have HW : Hid (wrap64 ((2 : Int) ^ U.length) = ((M : Nat) : Int)) := hw; clear hw
  go_enter Try.func56, Try.ntmps56
  go_wp2_with fail; refine (HNI.out _ _ (FL.sing (blk_two w _ _) ((HV.out.more _).more _))).mono ?_; rintro e w1 ⟨x, rfl, hx, hb1⟩; have B1 := below_join (below_more (below_more (Below.refl _ w) _) _) hb1; have HQ : Hid (w1.heap[w.heap.size]? = some _) := below_keep hb1 (alloc_keep (blk_new w _) _); have HX : Hid (SL w1 x U) := hx.sl; obtain ⟨adU, cpU, rfl, -⟩ := hx; clear hb1; go_wp2_with fail
  go_loopg [4] M (fun g cc wr => ∃ j, j ≤ M ∧ g = M - j ∧ cc = .int .i64 (j : Nat) ∧ Hid (Below w1.heap.size w1 wr))
  case atStart => exact ⟨0, by omega, by omega, rfl, Below.refl _ _⟩
  case round =>
    obtain ⟨j, hj, hg, rfl, HBr⟩ := hrel; have HG : Hid (gk = M - j) := hg; clear hg; obtain ⟨q0, q1, q2, -⟩ := blk3 (below_keep HBr.out HQ.out); have hw := HW.out; by_cases hlt : j < M
    · have hltI : (j : Int) < (M : Int) := by omega
      (have hj5 : j ≤ 100000 := by omega); go_wp2_with fail
      go_region_held3 (fun w' => w'.cell? ⟨w.heap.size, 0, none⟩ = some (.int .i64 k) ∧ w'.cell? ⟨w.heap.size, 1, none⟩ = some (.string n) ∧ w'.cell? ⟨w.heap.size, 2, none⟩ = some (.slice sl ks.length cap)) (go_keep)
        (first
         | (go_at_call 21
            refine (HRW.out j hj5 _ _ ((HX.out.up HBr.out).up (Below.refl _ _).drew)).mono ?_; rintro e w2 ⟨y, rfl, hy, hb2⟩; have HB2 : Hid (Below w1.heap.size w1 w2) := below_join HBr.out.drew hb2; have HY : Hid (SL w2 y (rowN j U 0)) := hy.sl; obtain ⟨g0, g1, g2, -⟩ := blk3 (below_keep HB2.out HQ.out); obtain ⟨ady, cpy, rfl, -⟩ := hy
            clear hb2)
         | (go_at_call 20
            refine (HTR.out j _ _ _ ((HV.out.up B1).up HB2.out) HY.out).mono ?_; rintro e w3 ⟨rfl, hb3⟩; have HB3 : Hid (Below w1.heap.size w1 w3) := below_join HB2.out hb3; obtain ⟨i0, i1, i2, -⟩ := blk3 (below_keep HB3.out HQ.out)
            clear hb3)
         | fail)
      all_goals
        go_wp2_with fail
        go_roundg (M - (j + 1))
        case measure => have := HG.out; omega
        case rel => exact ⟨j + 1, by omega, rfl, by go_num, HB3⟩
    · have hge : ¬ (j : Int) < (M : Int) := by omega
      go_wp2_with fail; go_ret; exact ⟨rfl, below_join B1 HBr.out⟩

set_option maxHeartbeats 2000000 in
theorem inAll_any (l r : List Fm) (hl4 : l.length ≤ 400) (hr4 : r.length ≤ 400) (hf : Fine (asF l r)) (hs : (asF l r).size ≤ 20000) (hn : (nmsU (asF l r)).length ≤ 10) (ht : ∀ p, tv p (asF l r) = true) (v u : Value) (w : World) (hv : FL w v l) (hu : FL w u r) :
    Calls Try.prog 32 #[.agg #[v, u]] w fun e w' => e = .returned (.bool true) ∧ Below w.heap.size w w' := by
  have B0 := below_more (Below.refl _ w) (.cells #[v, u] 59 (0, 0)); have has := as_any l r hl4 hr4 v u _ (hv.up B0) (hu.up B0); have HAS : Hid (Calls Try.prog 31 _ _ _) := has; (have HT : Hid (∀ v w, Rep w (fun _ => True) (asF l r) v → Calls Try.prog 56 #[v] w _) := fun v w h => taut_any (asF l r) hf hs hn ht v w h); obtain ⟨adl, cpl, rfl, -⟩ := hv; obtain ⟨adr, cpr, rfl, -⟩ := hu; clear has hf hs hn ht
  go_enter Try.func32, Try.ntmps32
  go_wp2_with fail; refine HAS.out.mono ?_; rintro e w1 ⟨x, rfl, hx, hb1⟩; have B1 := below_join B0 hb1; (have HX : Hid (Rep w1 (fun _ => True) (asF l r) x) := hx); clear hx; go_wp2_with fail; refine (HT.out _ _ HX.out).mono ?_; rintro e w2 ⟨rfl, hb2⟩; have B2 := below_join B1 hb2; go_wp2_with fail; go_ret; exact ⟨rfl, B2⟩
end Go.Proofs.Ytmahgfgndfcmpab
/- Walks: the proof of p | ~p; calculusBegun. -/
namespace Go.Proofs.Ytmahgfgndfcmpab
open Go.RowKit

def mP : Fm := .mk 1 ⟨#[112]⟩ []
def mN : Fm := .mk 4 ⟨#[]⟩ [mP]
def mO : Fm := .mk 6 ⟨#[]⟩ [mP, mN]
def midA : Pf := .mk ⟨#[97, 120]⟩ mP [mP] [mP] []
def midN : Pf := .mk ⟨#[110, 111, 116, 45, 114]⟩ mN [] [mP, mN] [midA]
def midO : Pf := .mk ⟨#[111, 114, 45, 114]⟩ mO [] [mO] [midN]

theorem blk_at {X : World} {o : Obj} {n : Nat} (h : X.heap.size = n) : (X.alloc o).heap[n]? = some o := by rw [← h]; exact blk_new X o
theorem seven (X : World) (a0 a1 a2 a3 a4 a5 a6 : Obj) : (∀ b, b < X.heap.size → (((((((X.alloc a0).alloc a1).alloc a2).alloc a3).alloc a4).alloc a5).alloc a6).heap[b]? = X.heap[b]?) ∧ (((((((X.alloc a0).alloc a1).alloc a2).alloc a3).alloc a4).alloc a5).alloc a6).heap[X.heap.size]? = some a0 ∧ (((((((X.alloc a0).alloc a1).alloc a2).alloc a3).alloc a4).alloc a5).alloc a6).heap[X.heap.size + 1]? = some a1 ∧ (((((((X.alloc a0).alloc a1).alloc a2).alloc a3).alloc a4).alloc a5).alloc a6).heap[X.heap.size + 1 + 1]? = some a2 ∧ (((((((X.alloc a0).alloc a1).alloc a2).alloc a3).alloc a4).alloc a5).alloc a6).heap[X.heap.size + 1 + 1 + 1]? = some a3 ∧ (((((((X.alloc a0).alloc a1).alloc a2).alloc a3).alloc a4).alloc a5).alloc a6).heap[X.heap.size + 1 + 1 + 1 + 1]? = some a4 ∧ (((((((X.alloc a0).alloc a1).alloc a2).alloc a3).alloc a4).alloc a5).alloc a6).heap[X.heap.size + 1 + 1 + 1 + 1 + 1]? = some a5 ∧ (((((((X.alloc a0).alloc a1).alloc a2).alloc a3).alloc a4).alloc a5).alloc a6).heap[X.heap.size + 1 + 1 + 1 + 1 + 1 + 1]? = some a6 := by
  (have s1 : (X.alloc a0).heap.size = X.heap.size + 1 := by simp); (have s2 : ((X.alloc a0).alloc a1).heap.size = X.heap.size + 1 + 1 := by simp); (have s3 : (((X.alloc a0).alloc a1).alloc a2).heap.size = X.heap.size + 1 + 1 + 1 := by simp); (have s4 : ((((X.alloc a0).alloc a1).alloc a2).alloc a3).heap.size = X.heap.size + 1 + 1 + 1 + 1 := by simp); (have s5 : (((((X.alloc a0).alloc a1).alloc a2).alloc a3).alloc a4).heap.size = X.heap.size + 1 + 1 + 1 + 1 + 1 := by simp); (have s6 : ((((((X.alloc a0).alloc a1).alloc a2).alloc a3).alloc a4).alloc a5).heap.size = X.heap.size + 1 + 1 + 1 + 1 + 1 + 1 := by simp); (refine ⟨fun b hb => ?_, ?_, ?_, ?_, ?_, ?_, ?_, ?_⟩)
  · rw [Below.heap_alloc _ _ _ (by omega), Below.heap_alloc _ _ _ (by omega), Below.heap_alloc _ _ _ (by omega), Below.heap_alloc _ _ _ (by omega), Below.heap_alloc _ _ _ (by omega), Below.heap_alloc _ _ _ (by omega), Below.heap_alloc _ _ _ hb]
  · exact alloc_keep (alloc_keep (alloc_keep (alloc_keep (alloc_keep (alloc_keep (blk_new X a0) _) _) _) _) _) _
  · exact alloc_keep (alloc_keep (alloc_keep (alloc_keep (alloc_keep (blk_at s1) _) _) _) _) _
  · exact alloc_keep (alloc_keep (alloc_keep (alloc_keep (blk_at s2) _) _) _) _
  · exact alloc_keep (alloc_keep (alloc_keep (blk_at s3) _) _) _
  · exact alloc_keep (alloc_keep (blk_at s4) _) _
  · exact alloc_keep (blk_at s5) _
  · exact blk_at s6

set_option maxRecDepth 10000 in
set_option maxHeartbeats 8000000 in
theorem middle_any (w : World) : Calls Try.prog 54 #[] w fun e w' => ∃ x, e = .returned x ∧ PRep w' midO x ∧ Below w.heap.size w w' := by
  go_enter Try.func54, Try.ntmps54
  go_wp2_with fail; refine (named_any _ _).mono ?_; rintro e w1 ⟨rfl, hb1⟩; have p1 := below_keep hb1 (blk_new w (.cells #[.string ⟨#[]⟩, .int .i64 0, .string ⟨#[]⟩, .slice none 0 0, .slice none 0 0, .slice none 0 0, .slice none 0 0] 62 (0, 0))); have P1 : Hid (w1.heap[w.heap.size]? = some _) := p1; have HB1 : Hid (Below w.heap.size w w1) := below_join (below_more (Below.refl _ w) _) hb1; have z1 := lt_of_block p1; clear hb1 p1; go_wp2_with fail; (refine (ofP_any (fun b => b ≠ w.heap.size) 4 mP _ _ (fun b hb => by simp at hb; omega) (Rep.leaf (by decide))).mono ?_); rintro e w2 ⟨xn, rfl, hn, hb2⟩; obtain ⟨sn, cn, rfl⟩ := slice_shape hn; (have HN : Hid (Rep w2 (fun b => b ≠ w.heap.size) mN _) := hn); have HB2 : Hid (Below w.heap.size w w2) := below_join (below_more HB1.out _) hb2; have P2 : Hid (w2.heap[w.heap.size]? = some _) := below_keep hb2 (alloc_keep P1.out _); have Q1 : Hid (w2.heap[w1.heap.size]? = some (.cells #[.int .i64 1, .string ⟨#[112]⟩, .slice none 0 0] 37 (0, 0))) := below_keep hb2 (blk_new w1 _); have z2 := lt_of_block Q1.out; obtain ⟨a0, a1, a2, -⟩ := blk3 Q1.out; (have d1 : ¬ w1.heap.size = w2.heap.size := by omega); clear hb2 hn; go_wp2_with fail; (refine (bothP_any (fun b => b ≠ w.heap.size) 6 mP mN _ _ _ (fun b hb => by simp at hb; omega) (Rep.leaf (by decide)) (HN.out.up' (below_more (Below.refl _ w2) _))).mono ?_); rintro e w3 ⟨xo, rfl, ho, hb3⟩; obtain ⟨so, co, rfl⟩ := slice_shape ho; (have HO : Hid (Rep w3 (fun b => b ≠ w.heap.size) mO _) := ho); (have HN3 : Hid (Rep w3 (fun b => b ≠ w.heap.size) mN _) := (HN.out.up' (below_more (Below.refl _ w2) _)).up' hb3); have HB3 : Hid (Below w.heap.size w w3) := below_join (below_more HB2.out _) hb3; have P3 : Hid (w3.heap[w.heap.size]? = some _) := below_keep hb3 (alloc_keep P2.out _); have Q2 : Hid (w3.heap[w2.heap.size]? = some _) := below_keep hb3 (blk_new w2 _); have R2 : Hid (w3.heap[w1.heap.size]? = some _) := below_keep hb3 (alloc_keep Q1.out _); have z3 := lt_of_block Q2.out; have z4 := lt_of_block R2.out; have z5 := lt_of_block P3.out; clear a0 a1 a2 hb3 ho; obtain ⟨a0, a1, a2, -⟩ := blk3 R2.out; obtain ⟨b0, b1, b2, -⟩ := blk3 Q2.out; obtain ⟨j0, j1, j2, j3, j4, j5, j6⟩ := blk7 P3.out; obtain ⟨m0, m1, m2, m3, m4, m5, m6⟩ := blk7f P3.out; (have la0 : w.heap.size < w3.heap.size := by omega); (have na0 : ¬ w.heap.size = w3.heap.size := by omega); (have la1 : w.heap.size < w3.heap.size + 1 := by omega); (have na1 : ¬ w.heap.size = w3.heap.size + 1 := by omega); (have la2 : w.heap.size < w3.heap.size + 1 + 1 := by omega); (have na2 : ¬ w.heap.size = w3.heap.size + 1 + 1 := by omega); (have la3 : w.heap.size < w3.heap.size + 1 + 1 + 1 := by omega); (have na3 : ¬ w.heap.size = w3.heap.size + 1 + 1 + 1 := by omega); (have la4 : w.heap.size < w3.heap.size + 1 + 1 + 1 + 1 := by omega); (have na4 : ¬ w.heap.size = w3.heap.size + 1 + 1 + 1 + 1 := by omega); (have la5 : w.heap.size < w3.heap.size + 1 + 1 + 1 + 1 + 1 := by omega); (have na5 : ¬ w.heap.size = w3.heap.size + 1 + 1 + 1 + 1 + 1 := by omega); (have la6 : w.heap.size < w3.heap.size + 1 + 1 + 1 + 1 + 1 + 1 := by omega); (have na6 : ¬ w.heap.size = w3.heap.size + 1 + 1 + 1 + 1 + 1 + 1 := by omega); (have la7 : w.heap.size < w3.heap.size + 1 + 1 + 1 + 1 + 1 + 1 + 1 := by omega); (have na7 : ¬ w.heap.size = w3.heap.size + 1 + 1 + 1 + 1 + 1 + 1 + 1 := by omega); (have lb0 : w1.heap.size < w3.heap.size := by omega); (have nb0 : ¬ w1.heap.size = w3.heap.size := by omega); (have lb1 : w1.heap.size < w3.heap.size + 1 := by omega); (have nb1 : ¬ w1.heap.size = w3.heap.size + 1 := by omega); (have lb2 : w1.heap.size < w3.heap.size + 1 + 1 := by omega); (have nb2 : ¬ w1.heap.size = w3.heap.size + 1 + 1 := by omega); (have lb3 : w1.heap.size < w3.heap.size + 1 + 1 + 1 := by omega); (have nb3 : ¬ w1.heap.size = w3.heap.size + 1 + 1 + 1 := by omega); (have lb4 : w1.heap.size < w3.heap.size + 1 + 1 + 1 + 1 := by omega); (have nb4 : ¬ w1.heap.size = w3.heap.size + 1 + 1 + 1 + 1 := by omega); (have lb5 : w1.heap.size < w3.heap.size + 1 + 1 + 1 + 1 + 1 := by omega); (have nb5 : ¬ w1.heap.size = w3.heap.size + 1 + 1 + 1 + 1 + 1 := by omega); (have lb6 : w1.heap.size < w3.heap.size + 1 + 1 + 1 + 1 + 1 + 1 := by omega)
  (have nb6 : ¬ w1.heap.size = w3.heap.size + 1 + 1 + 1 + 1 + 1 + 1 := by omega); (have lb7 : w1.heap.size < w3.heap.size + 1 + 1 + 1 + 1 + 1 + 1 + 1 := by omega); (have nb7 : ¬ w1.heap.size = w3.heap.size + 1 + 1 + 1 + 1 + 1 + 1 + 1 := by omega); (have lc0 : w2.heap.size < w3.heap.size := by omega); (have nc0 : ¬ w2.heap.size = w3.heap.size := by omega); (have lc1 : w2.heap.size < w3.heap.size + 1 := by omega); (have nc1 : ¬ w2.heap.size = w3.heap.size + 1 := by omega); (have lc2 : w2.heap.size < w3.heap.size + 1 + 1 := by omega); (have nc2 : ¬ w2.heap.size = w3.heap.size + 1 + 1 := by omega); (have lc3 : w2.heap.size < w3.heap.size + 1 + 1 + 1 := by omega); (have nc3 : ¬ w2.heap.size = w3.heap.size + 1 + 1 + 1 := by omega); (have lc4 : w2.heap.size < w3.heap.size + 1 + 1 + 1 + 1 := by omega); (have nc4 : ¬ w2.heap.size = w3.heap.size + 1 + 1 + 1 + 1 := by omega); (have lc5 : w2.heap.size < w3.heap.size + 1 + 1 + 1 + 1 + 1 := by omega); (have nc5 : ¬ w2.heap.size = w3.heap.size + 1 + 1 + 1 + 1 + 1 := by omega); (have lc6 : w2.heap.size < w3.heap.size + 1 + 1 + 1 + 1 + 1 + 1 := by omega); (have nc6 : ¬ w2.heap.size = w3.heap.size + 1 + 1 + 1 + 1 + 1 + 1 := by omega); (have lc7 : w2.heap.size < w3.heap.size + 1 + 1 + 1 + 1 + 1 + 1 + 1 := by omega); (have nc7 : ¬ w2.heap.size = w3.heap.size + 1 + 1 + 1 + 1 + 1 + 1 + 1 := by omega); (have ld1 : w3.heap.size < w3.heap.size + 1 := by omega); (have nd1 : ¬ w3.heap.size = w3.heap.size + 1 := by omega); (have ld2 : w3.heap.size < w3.heap.size + 1 + 1 := by omega); (have nd2 : ¬ w3.heap.size = w3.heap.size + 1 + 1 := by omega); (have ld3 : w3.heap.size < w3.heap.size + 1 + 1 + 1 := by omega); (have nd3 : ¬ w3.heap.size = w3.heap.size + 1 + 1 + 1 := by omega); (have ld4 : w3.heap.size < w3.heap.size + 1 + 1 + 1 + 1 := by omega); (have nd4 : ¬ w3.heap.size = w3.heap.size + 1 + 1 + 1 + 1 := by omega); (have ld5 : w3.heap.size < w3.heap.size + 1 + 1 + 1 + 1 + 1 := by omega); (have nd5 : ¬ w3.heap.size = w3.heap.size + 1 + 1 + 1 + 1 + 1 := by omega); (have ld6 : w3.heap.size < w3.heap.size + 1 + 1 + 1 + 1 + 1 + 1 := by omega); (have nd6 : ¬ w3.heap.size = w3.heap.size + 1 + 1 + 1 + 1 + 1 + 1 := by omega); (have ld7 : w3.heap.size < w3.heap.size + 1 + 1 + 1 + 1 + 1 + 1 + 1 := by omega); (have nd7 : ¬ w3.heap.size = w3.heap.size + 1 + 1 + 1 + 1 + 1 + 1 + 1 := by omega); go_wp2_with fail; obtain ⟨X, hX⟩ : ∃ X, X = put7 w3 w.heap.size (.string ⟨#[111, 114, 45, 114]⟩) (.int .i64 6) (.string ⟨#[]⟩) (.slice so 2 co) (.slice none 0 0) (.slice (some ⟨w3.heap.size + 1, 0, none⟩) 1 1) (.slice (some ⟨w3.heap.size + 1 + 1 + 1 + 1 + 1 + 1, 0, none⟩) 1 1) := ⟨_, rfl⟩; (have hXs : X.heap.size = w3.heap.size := by rw [hX]; simp [put7, World.setCell]); (have hXp : X.heap[w.heap.size]? = some (.cells #[.string ⟨#[111, 114, 45, 114]⟩, .int .i64 6, .string ⟨#[]⟩, .slice so 2 co, .slice none 0 0, .slice (some ⟨w3.heap.size + 1, 0, none⟩) 1 1, .slice (some ⟨w3.heap.size + 1 + 1 + 1 + 1 + 1 + 1, 0, none⟩) 1 1] 62 (0, 0)) := by rw [hX]; exact put7_blk P3.out _ _ _ _ _ _ _); (have hXo : ∀ b, b ≠ w.heap.size → X.heap[b]? = w3.heap[b]? := fun b hb => by rw [hX]; exact put7_other hb _ _ _ _ _ _ _); (have hXb : Below w.heap.size w X := by rw [hX]; exact put7_below HB3.out (Nat.le_refl _) _ _ _ _ _ _ _); show bodyPost _ _ _ _ _ (((((((((put7 w3 w.heap.size _ _ _ _ _ _ _).alloc _).alloc _).alloc _).alloc _).alloc _).alloc _).alloc _)); rw [← hX]; obtain ⟨g0, f0, f1, f2, f3, f4, f5, f6⟩ := seven X (.cells #[.int .i64 6, .string ⟨#[]⟩, .slice so 2 co] 37 (0, 0)) (.cells #[.int .i64 6, .string ⟨#[]⟩, .slice so 2 co] 37 (0, 0)) (.cells #[.int .i64 1, .string ⟨#[112]⟩, .slice none 0 0, .int .i64 4, .string ⟨#[]⟩, .slice sn 1 cn] 37 (0, 0)) (.cells #[.int .i64 1, .string ⟨#[112]⟩, .slice none 0 0] 37 (0, 0)) (.cells #[.int .i64 1, .string ⟨#[112]⟩, .slice none 0 0] 37 (0, 0)) (.cells #[.string ⟨#[97, 120]⟩, .int .i64 1, .string ⟨#[112]⟩, .slice none 0 0, .slice (some ⟨w3.heap.size + 1 + 1 + 1, 0, none⟩) 1 1, .slice (some ⟨w3.heap.size + 1 + 1 + 1 + 1, 0, none⟩) 1 1, .slice none 0 0] 62 (0, 0)) (.cells #[.string ⟨#[110, 111, 116, 45, 114]⟩, .int .i64 4, .string ⟨#[]⟩, .slice sn 1 cn, .slice none 0 0, .slice (some ⟨w3.heap.size + 1 + 1, 0, none⟩) 2 2, .slice (some ⟨w3.heap.size + 1 + 1 + 1 + 1 + 1, 0, none⟩) 1 1] 62 (0, 0))
  have hBF := below_more (below_more (below_more (below_more (below_more (below_more (below_more hXb (.cells #[.int .i64 6, .string ⟨#[]⟩, .slice so 2 co] 37 (0, 0))) (.cells #[.int .i64 6, .string ⟨#[]⟩, .slice so 2 co] 37 (0, 0))) (.cells #[.int .i64 1, .string ⟨#[112]⟩, .slice none 0 0, .int .i64 4, .string ⟨#[]⟩, .slice sn 1 cn] 37 (0, 0))) (.cells #[.int .i64 1, .string ⟨#[112]⟩, .slice none 0 0] 37 (0, 0))) (.cells #[.int .i64 1, .string ⟨#[112]⟩, .slice none 0 0] 37 (0, 0))) (.cells #[.string ⟨#[97, 120]⟩, .int .i64 1, .string ⟨#[112]⟩, .slice none 0 0, .slice (some ⟨w3.heap.size + 1 + 1 + 1, 0, none⟩) 1 1, .slice (some ⟨w3.heap.size + 1 + 1 + 1 + 1, 0, none⟩) 1 1, .slice none 0 0] 62 (0, 0))) (.cells #[.string ⟨#[110, 111, 116, 45, 114]⟩, .int .i64 4, .string ⟨#[]⟩, .slice sn 1 cn, .slice none 0 0, .slice (some ⟨w3.heap.size + 1 + 1, 0, none⟩) 2 2, .slice (some ⟨w3.heap.size + 1 + 1 + 1 + 1 + 1, 0, none⟩) 1 1] 62 (0, 0)); generalize World.alloc _ _ = F at *; rw [hXs] at f0 f1 f2 f3 f4 f5 f6 g0; have hp := (g0 w.heap.size z5).trans hXp; (have mvO := HO.out.move (w' := F) (ok' := fun _ => True) fun b hb ho => ⟨(g0 b hb).trans (hXo b ho), trivial⟩); (have mvN := HN3.out.move (w' := F) (ok' := fun _ => True) fun b hb ho => ⟨(g0 b hb).trans (hXo b ho), trivial⟩); (have rP : Rep F (fun _ => True) mP (.agg #[.int .i64 1, .string ⟨#[112]⟩, .slice none 0 0]) := Rep.leaf (by decide)); (have pA : PRep F midA (.agg #[.string ⟨#[97, 120]⟩, .int .i64 1, .string ⟨#[112]⟩, .slice none 0 0, .slice (some ⟨w3.heap.size + 1 + 1 + 1, 0, none⟩) 1 1, .slice (some ⟨w3.heap.size + 1 + 1 + 1 + 1, 0, none⟩) 1 1, .slice none 0 0]) := PRep.def.2 ⟨_, _, _, _, _, none, 0, rfl, by decide, rP, FL.sing f3 rP, FL.sing f4 rP, Nat.le_refl _, by simp, fun h => absurd rfl h⟩); (have pN : PRep F midN (.agg #[.string ⟨#[110, 111, 116, 45, 114]⟩, .int .i64 4, .string ⟨#[]⟩, .slice sn 1 cn, .slice none 0 0, .slice (some ⟨w3.heap.size + 1 + 1, 0, none⟩) 2 2, .slice (some ⟨w3.heap.size + 1 + 1 + 1 + 1 + 1, 0, none⟩) 1 1]) := PRep.def.2 ⟨_, _, _, _, _, _, 1, rfl, by decide, mvN, FL.none, FL.duo f2 rP mvN, Nat.le_refl _, by simp [maxLen], fun _ => ⟨_, 0, rfl, PReps.cons.2 ⟨⟨_, _, _, _, _, _, _, blk_cell f5 0, blk_cell f5 1, blk_cell f5 2, blk_cell f5 3, blk_cell f5 4, blk_cell f5 5, blk_cell f5 6, pA⟩, PReps.nil⟩⟩⟩); (have pO : PRep F midO (.agg #[.string ⟨#[111, 114, 45, 114]⟩, .int .i64 6, .string ⟨#[]⟩, .slice so 2 co, .slice none 0 0, .slice (some ⟨w3.heap.size + 1, 0, none⟩) 1 1, .slice (some ⟨w3.heap.size + 1 + 1 + 1 + 1 + 1 + 1, 0, none⟩) 1 1]) := PRep.def.2 ⟨_, _, _, _, _, _, 1, rfl, by decide, mvO, FL.none, FL.sing f1 mvO, Nat.le_refl _, by simp [maxLen], fun _ => ⟨_, 0, rfl, PReps.cons.2 ⟨⟨_, _, _, _, _, _, _, blk_cell f6 0, blk_cell f6 1, blk_cell f6 2, blk_cell f6 3, blk_cell f6 4, blk_cell f6 5, blk_cell f6 6, pN⟩, PReps.nil⟩⟩⟩); have HPO : Hid (PRep F midO _) := pO; obtain ⟨y0, y1, y2, y3, y4, y5, y6⟩ := blk7 hp; (exact bodyPost_ret (v := .agg #[.string ⟨#[111, 114, 45, 114]⟩, .int .i64 6, .string ⟨#[]⟩, .slice so 2 co, .slice none 0 0, .slice (some ⟨w3.heap.size + 1, 0, none⟩) 1 1, .slice (some ⟨w3.heap.size + 1 + 1 + 1 + 1 + 1 + 1, 0, none⟩) 1 1]) (by simp [results, Try.results54, go_sem, y0, y1, y2, y3, y4, y5, y6]) rfl ⟨_, rfl, HPO.out, hBF⟩)
end Go.Proofs.Ytmahgfgndfcmpab
/- Walks: calculusBegun. -/
namespace Go.Proofs.Ytmahgfgndfcmpab
open Go.RowKit
theorem mid_no : (look false midO 1 0 0).1 = (0, 0) := by decide +kernel
theorem mid_yes : (look true midO 1 0 0).1 = (4, 0) := by decide +kernel
theorem mid_small : SmallP midO := SmallP.mk (by decide) (by decide) (by decide) fun k hk => by
  simp only [List.mem_cons, List.not_mem_nil, or_false] at hk; subst hk; (refine SmallP.mk (by decide) (by decide) (by decide) fun k hk => ?_); simp only [List.mem_cons, List.not_mem_nil, or_false] at hk; subst hk; (exact SmallP.mk (by decide) (by decide) (by decide) fun k hk => by cases hk)

set_option maxRecDepth 10000 in
set_option maxHeartbeats 4000000 in
theorem calculusBegun_any (w : World) : Calls Try.prog 28 #[] w fun e w' => e = .returned (.bool true) ∧ Below w.heap.size w w' := by
  (have hc1 := fun v (w : World) h => pcheck_any false midO mid_small v w h); (have hc2 := fun v (w : World) h => pcheck_any true midO mid_small v w h); simp only [mid_no, mid_yes] at hc1 hc2; (have HC1 : Hid (∀ v w, PRep w midO v → Calls Try.prog 30 #[v, .bool false] w fun e w' => e = .returned (.agg #[.int .i64 0, .int .i64 0]) ∧ Below w.heap.size w w') := hc1); (have HC2 : Hid (∀ v w, PRep w midO v → Calls Try.prog 30 #[v, .bool true] w fun e w' => e = .returned (.agg #[.int .i64 4, .int .i64 0]) ∧ Below w.heap.size w w') := hc2); clear hc1 hc2
  go_enter Try.func28, Try.ntmps28
  go_wp2_with fail; refine (middle_any w).mono ?_; rintro e w1 ⟨x, rfl, hx, hb1⟩; have HX : Hid (PRep w1 midO x) := hx; clear hx; go_wp2_with fail; refine (HC1.out _ _ HX.out).mono ?_; rintro e w2 ⟨rfl, hb2⟩; have B2 := below_join hb1 hb2; clear hb1 hb2; go_wp2_with fail; refine (middle_any _).mono ?_; rintro e w3 ⟨y, rfl, hy, hb3⟩; have HY : Hid (PRep w3 midO y) := hy; have B3 := below_join (below_more B2 _) hb3; have Q3 : Hid (w3.heap[w2.heap.size]? = some _) := below_keep hb3 (blk_new w2 _); clear hy hb3; go_wp2_with fail; refine (HC2.out _ _ HY.out).mono ?_; rintro e w4 ⟨rfl, hb4⟩; have B4 := below_join B3 hb4; have Q4 : Hid (w4.heap[w2.heap.size]? = some _) := below_keep hb4 Q3.out; have z4 := lt_of_block Q4.out; obtain ⟨a0, a1, -⟩ := blk2 Q4.out; (have d1 : ¬ w2.heap.size = w4.heap.size := by omega); (have d2 : ¬ w4.heap.size = w2.heap.size := by omega); clear hb4; go_wp2_with fail; have hp0 := blk_new w4 (.cells #[.int .i64 4, .int .i64 0] 25 (0, 0)); obtain ⟨b0, b1, -⟩ := blk2 hp0; obtain ⟨c0, c1, -⟩ := blk2 (alloc_keep Q4.out (.cells #[.int .i64 4, .int .i64 0] 25 (0, 0)))
  go_region_held3 (fun w' => w'.cell? ⟨w2.heap.size, 0, none⟩ = some (.int .i64 0) ∧ w'.cell? ⟨w4.heap.size, 0, none⟩ = some (.int .i64 4) ∧ w'.cell? ⟨w4.heap.size, 1, none⟩ = some (.int .i64 0)) (go_keep)
    (first
     | (go_at_call 16
        refine (mkF_any 4 0 _).mono ?_; rintro e w5 ⟨rfl, hb5⟩; have B5 := below_join (below_more B4 _).drew hb5; obtain ⟨e0, e1, -⟩ := blk2 (below_keep hb5 (show ((w4.alloc (.cells #[.int .i64 4, .int .i64 0] 25 (0, 0))).drew).heap[w4.heap.size]? = _ from hp0)); obtain ⟨f0, f1, -⟩ := blk2 (below_keep hb5 (show ((w4.alloc (.cells #[.int .i64 4, .int .i64 0] 25 (0, 0))).drew).heap[w2.heap.size]? = _ from alloc_keep Q4.out _))
        clear hb5)
     | fail)
  all_goals
    go_wp2_with fail; go_ret; exact ⟨rfl, B5⟩
end Go.Proofs.Ytmahgfgndfcmpab
/- Walks: CalculusSound. -/
namespace Go.Proofs.Ytmahgfgndfcmpab
open Go.RowKit

theorem look_root {i : Bool} {a : ByteArray} {f : Fm} {l r : List Fm} {ks : List Pf} {d s c : Nat} (h : (look i (.mk a f l r ks) d s c).1.1 = 0) : (seqCode l r).1 = 0 := by
  rw [look_def] at h
  split at h
  · cases h
  · split at h
    · rename_i hs
      exact absurd h hs
    · rename_i hs
      (have hs' : stepC i (.mk a f l r ks) = 0 := Classical.byContradiction fun e => hs e); rw [stepC] at hs'
      split at hs'
      · cases hs'
      · rename_i hn
        (exact Classical.byContradiction fun e => hn (Or.inl e))

set_option maxRecDepth 10000 in
set_option maxHeartbeats 4000000 in
theorem psound_any (i : Bool) (p : Pf) (v : Value) (w : World) (hv : PRep w p v) :
    Calls Try.prog 7 #[v, .bool i] w fun e w' => e = .returned (.bool true) ∧ Below w.heap.size w w' := by
  obtain ⟨a, ⟨k, n, kf⟩, l, r, ks⟩ := p; have HV : Hid (PRep w (.mk a (.mk k n kf) l r ks) v) := hv; obtain ⟨sf, cf, al, cl, ar, cr, sl, cap, rfl, -, -, hl, hr, -⟩ := hv.parts; have HL : Hid (FL w (.slice al l.length cl) l) := hl; have HR : Hid (FL w (.slice ar r.length cr) r) := hr; obtain ⟨O, hO⟩ : ∃ O, O = Obj.cells #[.string a, .int .i64 k, .string n, .slice sf kf.length cf, .slice al l.length cl, .slice ar r.length cr, .slice sl ks.length cap] 62 (0, 0) := ⟨_, rfl⟩; have B0 := below_more (Below.refl _ w) O; have hp0 := blk_new w O; (have P0 : Hid ((w.alloc O).heap[w.heap.size]? = some (.cells #[.string a, .int .i64 k, .string n, .slice sf kf.length cf, .slice al l.length cl, .slice ar r.length cr, .slice sl ks.length cap] 62 (0, 0))) := by rw [← hO]; exact hp0); (have HCh : Hid (∀ v w, SmallP (.mk a (.mk k n kf) l r ks) → PRep w (.mk a (.mk k n kf) l r ks) v → Calls Try.prog 30 #[v, .bool i] w fun e w' => e = .returned (.agg #[.int .i64 (look i (.mk a (.mk k n kf) l r ks) 1 0 0).1.1, .int .i64 (if (look i (.mk a (.mk k n kf) l r ks) 1 0 0).1.1 ≠ 0 then (look i (.mk a (.mk k n kf) l r ks) 1 0 0).1.2 else 0)]) ∧ Below w.heap.size w w') := fun v w hs h => pcheck_any i _ hs v w h); (have HSo : Hid ((look i (.mk a (.mk k n kf) l r ks) 1 0 0).1.1 = 0 → (seqCode l r).1 = 0 ∧ Valid l r) := fun h => ⟨look_root h, look_sound i _ _ _ _ h⟩); (generalize (if (look i (.mk a (.mk k n kf) l r ks) 1 0 0).1.1 ≠ 0 then (look i (.mk a (.mk k n kf) l r ks) 1 0 0).1.2 else 0) = la at *); generalize (look i (.mk a (.mk k n kf) l r ks) 1 0 0).1.1 = lc at *; clear hv hl hr hp0
  go_enter Try.func7, Try.ntmps7
  go_wp2_with fail; rw [← hO]; refine (calculusBegun_any _).mono ?_; rintro e w1 ⟨rfl, hb1⟩; have B1 := below_join B0 hb1; have P1 : Hid (w1.heap[w.heap.size]? = some _) := below_keep hb1 P0.out; obtain ⟨j0, j1, j2, j3, j4, j5, j6⟩ := blk7 P1.out; clear hO hb1 P0 B0; go_wp2_with fail; refine (pvast_any _ _ _ (PRep.up B1 _ _ HV.out)).mono ?_; rintro e w2 ⟨⟨b1, rfl, hsm⟩, hb2⟩; have B2 := below_join B1 hb2; have P2 : Hid (w2.heap[w.heap.size]? = some _) := below_keep hb2 P1.out; have HSm : Hid (b1 = false → SmallP (.mk a (.mk k n kf) l r ks)) := hsm; clear j0 j1 j2 j3 j4 j5 j6 hb2 hsm P1 B1
  cases b1
  case true =>
    go_wp2_with fail; go_ret; exact ⟨rfl, B2⟩
  case false =>
    have hsm := HSm.out rfl; have HSM : Hid (SmallP (.mk a (.mk k n kf) l r ks)) := hsm; obtain ⟨hl4, hr4, -⟩ := hsm.parts; clear hsm HSm; obtain ⟨j0, j1, j2, j3, j4, j5, j6⟩ := blk7 P2.out; go_wp2_with fail; refine (HCh.out _ _ HSM.out (PRep.up B2 _ _ HV.out)).mono ?_; rintro e w3 ⟨rfl, hb3⟩; have B3 := below_join B2 hb3; have P3 : Hid (w3.heap[w.heap.size]? = some _) := below_keep hb3 P2.out; have z3 := lt_of_block P3.out; (have d1 : ¬ w.heap.size = w3.heap.size := by omega); clear j0 j1 j2 j3 j4 j5 j6 hb3 P2 B2 HCh; obtain ⟨j0, j1, j2, j3, j4, j5, j6⟩ := blk7 P3.out; by_cases hlc : lc = 0
    · subst hlc
      obtain ⟨hsq, hval⟩ := HSo.out rfl; obtain ⟨h60, hfl, hfr⟩ := seqCode_fine hsq; (have hfine : Fine (asF l r) := asF_fine (fun f hf => (pcode_fine (hfl f hf)).1) (fun f hf => (pcode_fine (hfr f hf)).1)); (have hsize : (asF l r).size ≤ 20000 := asF_size (fun f hf => (pcode_fine (hfl f hf)).2) (fun f hf => (pcode_fine (hfr f hf)).2) h60); have htv := asF_tv hval; (have HAs : Hid (∀ wx, Below w.heap.size w wx → Calls Try.prog 31 #[.agg #[.slice al l.length cl, .slice ar r.length cr]] wx fun e w' => ∃ x, e = .returned x ∧ Rep w' (fun _ => True) (asF l r) x ∧ Below wx.heap.size wx w') := fun wx hb => as_any l r (by omega) (by omega) _ _ wx (HL.out.up hb) (HR.out.up hb)); (have HNi : Hid (∀ v w, FL w v [asF l r] → Calls Try.prog 19 #[v] w fun e w' => ∃ x, e = .returned x ∧ TL w' x (nmsU (asF l r)) ∧ Below w.heap.size w w') := fun v w h => namesIn_big _ hsize v w h); (have HIn : Hid ((nmsU (asF l r)).length ≤ 10 → ∀ wx, Below w.heap.size w wx → Calls Try.prog 32 #[.agg #[.slice al l.length cl, .slice ar r.length cr]] wx fun e w' => e = .returned (.bool true) ∧ Below wx.heap.size wx w') := fun hn wx hb => inAll_any l r (by omega) (by omega) hfine hsize hn htv _ _ wx (HL.out.up hb) (HR.out.up hb)); clear HSo hsq hval h60 hfl hfr hfine hsize htv; generalize nmsU (asF l r) = U at *; generalize asF l r = A at *; obtain ⟨kA, nA, ksA⟩ := A; go_wp2_with fail; refine (HAs.out _ (below_more B3 _)).mono ?_; rintro e w4 ⟨x, rfl, hx, hb4⟩; obtain ⟨sx, cx, rfl⟩ := slice_shape hx; (have HX : Hid (Rep w4 (fun _ => True) (.mk kA nA ksA) _) := hx); have B4 := below_join (below_more B3 _) hb4; have P4 : Hid (w4.heap[w.heap.size]? = some _) := below_keep hb4 (alloc_keep P3.out _); clear hx hb4 j0 j1 j2 j3 j4 j5 j6; go_wp2_with fail; refine (HNi.out _ _ (FL.sing (blk_new w4 _) (HX.out.more _))).mono ?_; rintro e w5 ⟨y, rfl, hy, hb5⟩; obtain ⟨ady, cpy, rfl, hyc, hycm, -⟩ := hy; have B5 := below_join (below_more B4 _) hb5; have P5 : Hid (w5.heap[w.heap.size]? = some _) := below_keep hb5 (alloc_keep P4.out _); obtain ⟨j0, j1, j2, j3, j4, j5, j6⟩ := blk7 P5.out; (have hUI : (U.length : Int) ≤ 9223372036854775807 := by unfold maxLen at hycm; omega); clear hb5 hyc hycm; by_cases hU : U.length ≤ 10
      · have hUJ : ¬ (10 : Int) < (U.length : Int) := by omega
        (have HIN : Hid (∀ wx, Below w.heap.size w wx → Calls Try.prog 32 #[.agg #[.slice al l.length cl, .slice ar r.length cr]] wx fun e w' => e = .returned (.bool true) ∧ Below wx.heap.size wx w') := HIn.out hU); clear HIn hU; go_wp2_with fail; refine (HIN.out _ B5).mono ?_; rintro e w6 ⟨rfl, hb6⟩; have B6 := below_join B5 hb6; go_wp2_with fail; go_ret; exact ⟨rfl, B6⟩
      · have hUJ : (10 : Int) < (U.length : Int) := by omega
        clear HIn hU; go_wp2_with fail; go_ret; exact ⟨rfl, B5⟩
    · have hlJ : (lc != 0) = true := by simpa using hlc
      clear HSo; go_wp2_with fail; go_ret; exact ⟨rfl, below_more B3 _⟩
end Go.Proofs.Ytmahgfgndfcmpab
