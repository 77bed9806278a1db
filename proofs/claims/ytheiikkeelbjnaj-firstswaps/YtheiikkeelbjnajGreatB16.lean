/- Texts of one proof, one behind the other: FW8, FW9. -/
import Derived.Test.YtheiikkeelbjnajGreatB12
import Derived.Test.YtheiikkeelbjnajGreatB04
/- Walks: the checker's expr. -/
namespace Go.Proofs.YtheiikkeelbjnajGreat
open Go.RowKit Go.Sort Go.Maps Go.WideMaps

def ELooks (m : Nat) : Prop := ∀ (x : Ex) (v : Value) (w0 w : World) (bc bp bf s : Nat) (p f : PlF), x.size < m → ERp w0 x v → Below w0.heap.size w0 w → New3 w0.heap.size bc bp bf → CkA w bc bp bf s p f → s ≤ 200 →
  Calls Tryz.prog 92 #[.pointer (some ⟨bc, 0, none⟩), v] w fun e w' => Kept (T3 bc bp bf) w w' ∧ CkPost bc bp bf (echk x s p f) e w'
set_option maxRecDepth 10000 in
set_option maxHeartbeats 16000000 in
theorem expr_step (m : Nat) (ih : ELooks m) : ELooks (m + 1) := by
  intro x v w0 w bc bp bf s p f hm hrep hbw hnew hc hs; obtain ⟨k, n, ws, ks⟩ := x; obtain ⟨sw, cw, sk, ck, rfl, hx1, hxw, hx2, hx3, hx4⟩ := ERp.def.1 hrep; have HX : Hid (WL w0 (.slice sw ws.length cw) ws) := hxw; have HXk : Hid (ks ≠ [] → ∃ b off, sk = some ⟨b, off, none⟩ ∧ ERps w0 b off ks) := hx4
  have hwm : ws.length ≤ maxLen := by
    obtain ⟨sl', cap', e, g1, g2, -⟩ := hxw; omega
  (have hlenw : (ws.length : Int) ≤ 9223372036854775807 := by unfold maxLen at hwm; omega); (have hlenk : (ks.length : Int) ≤ 9223372036854775807 := by unfold maxLen at hx3; omega); have HBw : Hid (Below w0.heap.size w0 w) := hbw; have HNw : Hid (New3 w0.heap.size bc bp bf) := hnew; have HMz : Hid ((Ex.mk k n ws ks).size < m + 1) := hm; have hc1 := hc.up (below_more (Below.refl w.heap.size w) (.cells #[.int .i64 k, .string n, .slice sw ws.length cw, .slice sk ks.length ck] 25 (0, 0))); have hlt0 := lt_of_block hc.blk; (have HT3 : Hid (T3 bc bp bf w.heap.size) := ⟨by omega, by have := hc.mp.lt; omega, by have := hc.mf.lt; omega⟩); by_cases h200 : s = 200
  · have HNx : Hid (Calls Tryz.prog 98 #[.pointer (some ⟨bc, 0, none⟩)] (w.alloc (.cells #[.int .i64 k, .string n, .slice sw ws.length cw, .slice sk ks.length ck] 25 (0, 0))) fun e w' => e = .panicked (stopC 2 0) ∧ w' = w.alloc (.cells #[.int .i64 k, .string n, .slice sw ws.length cw, .slice sk ks.length ck] 25 (0, 0))) := (ckNext_any bc bp bf s p f _ hc1 hs).mono fun e w' h => by rw [if_pos h200] at h; exact h
    (have HR : Hid (echk (.mk k n ws ks) s p f = .bad 2 0) := by show _ = _; rw [echk, if_pos h200]); clear hx2 hx3 hx4 hrep hbw hnew hm hc hc1 hs h200 HX HXk hxw
    go_enter Tryz.func92, Tryz.ntmps92
    go_wp2_with (first
      | (go_at_call 98
         refine HNx.out.mono ?_
         rintro e w1 ⟨rfl, rfl⟩)
      | fail)
    (exact ⟨rfl, (Kept.refl _ _).alloc _, by rw [HR.out]; rfl⟩)
  obtain ⟨W1, hW1⟩ : ∃ W, W = (w.alloc (.cells #[.int .i64 k, .string n, .slice sw ws.length cw, .slice sk ks.length ck] 25 (0, 0))).setCell ⟨bc, 0, none⟩ (.int .i64 ((s + 1 : Nat) : Int)) := ⟨_, rfl⟩; (have HNx : Hid (Calls Tryz.prog 98 #[.pointer (some ⟨bc, 0, none⟩)] (w.alloc (.cells #[.int .i64 k, .string n, .slice sw ws.length cw, .slice sk ks.length ck] 25 (0, 0))) fun e w' => e = .returned (.int .i64 (s : Nat)) ∧ w' = W1) := (ckNext_any bc bp bf s p f _ hc1 hs).mono fun e w' h => by rw [if_neg h200] at h; rw [hW1]; exact h); (have HC1 : Hid (CkA W1 bc bp bf (s + 1) p f) := by rw [hW1]; exact hc1.set); (have HQ1 : Hid (W1.heap[w.heap.size]? = some (.cells #[.int .i64 k, .string n, .slice sw ws.length cw, .slice sk ks.length ck] 25 (0, 0))) := by rw [hW1]; exact (Below.heap_setCell _ _ _ _ (by simp; omega)).trans (blk_new _ _)); (have HK1 : Hid (Kept (T3 bc bp bf) w W1) := by rw [hW1]; exact ((Kept.refl _ _).alloc _).setCell (fun _ h => h.1 rfl) _); (have HMp : Hid (PlM W1 bp p s) := by rw [hW1]; exact hc1.mp.same (Below.heap_setCell _ _ _ _ (by simpa using hc1.nep))); (have HS : Hid (s < 200) := by show _ < _; omega); (have HCW : Hid (∀ W, Calls Tryz.prog 141 #[.agg #[.int .i64 k, .string n, .slice sw ws.length cw, .slice sk ks.length ck], .int .i64 (s : Nat)] W (NdPost (enodeF k n ws.length ks.length) (s : Nat) W)) := fun W => checkExpr_any k (s : Nat) n hx1 sw sk ws.length cw ks.length ck W); have HOk : Hid (OkT n.data.toList ∧ ws.length ≤ maxLen) := ⟨okT_of hx1, hwm⟩; (have hwc : echk (.mk k n ws ks) s p f = match enodeF k n ws.length ks.length with | some c => .bad c s | none => if k = 1 ∧ plBad p n.data.toList ws.length = true then .bad 5 s else match wchks ws (s + 1) (if k = 1 then (plPut p n.data.toList ws.length) else p) f with | .bad c a => .bad c a | .ok s p f => echks ks s p f := by rw [echk, if_neg h200]; all_goals (cases enodeF k n ws.length ks.length <;> rfl)); clear hW1 hx2 hx3 hx4 hrep hbw hnew hm hc hc1 hs h200 hx1 hlt0 hxw hwm
  rcases hnf : enodeF k n ws.length ks.length with _ | c
  · rw [hnf] at hwc HCW
    simp only at hwc; unfold NdPost at HCW; simp only at HCW; clear hnf; by_cases hk1 : k = 1
    case neg =>
      (have hkJ : (k == 1) = false := by simpa using hk1); simp only [hk1, false_and, if_false] at hwc; (have HR : Hid (echk (.mk k n ws ks) s p f = match wchks ws (s + 1) p f with | .bad c a => .bad c a | .ok s p f => echks ks s p f) := hwc); clear hwc hk1 HOk HMp; obtain ⟨b0, b1, b2, b3⟩ := blk4L HQ1.out
      go_enter Tryz.func92, Tryz.ntmps92
      go_wp2_with (first
        | (go_at_call 98
           refine HNx.out.mono ?_
           rintro e w1 ⟨rfl, rfl⟩)
        | (go_at_call 141
           refine (HCW.out _).mono ?_; rintro e w2 ⟨rfl, hb2⟩; have q2 := below_keep hb2 HQ1.out
           obtain ⟨e0, e1, e2, e3⟩ := blk4L q2)
        | fail)
      have HCV : Hid (CkA w2 bc bp bf (s + 1) p f) := HC1.out.up hb2; have HKV : Hid (Kept (T3 bc bp bf) w w2) := keptBel HK1.out hb2; have HQV : Hid (w2.heap[w.heap.size]? = some (.cells #[.int .i64 k, .string n, .slice sw ws.length cw, .slice sk ks.length ck] 25 (0, 0))) := q2; clear hb2 q2 e0 e1 e2 e3 HC1 HQ1 HK1 HNx HCW b0 b1 b2 b3
      go_loopg [31] ws.length (fun gz v wr => ∃ i s' p' f', i ≤ ws.length ∧ gz = ws.length - i ∧ v = .int .i64 (i : Nat) ∧ s' ≤ 200 ∧ Hid (CkA wr bc bp bf s' p' f') ∧ Hid (Kept (T3 bc bp bf) w wr) ∧ Hid (wr.heap[w.heap.size]? = some (.cells #[.int .i64 k, .string n, .slice sw ws.length cw, .slice sk ks.length ck] 25 (0, 0))) ∧ Hid (wchks (ws.drop i) s' p' f' = wchks ws (s + 1) p f))
      case atStart => exact ⟨0, s + 1, p, f, by omega, by omega, rfl, by have := HS.out; omega, HCV, HKV, HQV, by show _ = _; simp⟩
      case round =>
        obtain ⟨i, s', p', f', hi, hg, rfl, hs', HCr, HKr, HQr, HC⟩ := hrel; have HG : Hid (gk = ws.length - i) := hg; clear hg; have HBr : Hid (Below w0.heap.size w0 wr) := kept3 HBw.out HNw.out HKr.out; by_cases hlt : i < ws.length
        · obtain ⟨⟨n2, ar2⟩, hki⟩ : ∃ x, ws[i]? = some x := ⟨_, List.getElem?_eq_getElem hlt⟩
          obtain ⟨b, off, sl2, cap2, rfl, z0, z1, hrep2⟩ := HX.out.at i n2 ar2 hki; have y0 := (HBr.out.cell (lt_of_cell z0)).trans z0; have y1 := (HBr.out.cell (lt_of_cell z1)).trans z1; (have hlt2 : (i : Int) < (ws.length : Int) := by omega); have hds := HC.out; rw [wchks_drop hki] at hds; (have HI : Hid (∀ W, CkA W bc bp bf s' p' f' → Below w0.heap.size w0 W → Calls Tryz.prog 50 #[.pointer (some ⟨bc, 0, none⟩), .agg #[.string n2, .slice sl2 ar2.length cap2]] W fun e w' => Kept (T3 bc bp bf) W w' ∧ CkPost bc bp bf (wchk (.mk n2 ar2) s' p' f') e w') := fun W h1 h2 => ckWord_any _ _ w0 W bc bp bf s' p' f' hrep2 h2 HNw.out h1 hs'); have HLt : Hid (i < ws.length) := hlt; clear hki hrep2 z0 z1 HC hlt
          rcases hck : wchk (.mk n2 ar2) s' p' f' with ⟨c, a⟩ | ⟨s2, p2, f2⟩
          · rw [hck] at hds HI
            simp only at hds; have HD : Hid (CkR.bad c a = wchks ws (s + 1) p f) := hds; clear hds hck HX
            go_wp2_with (first
              | (go_at_call 50
                 refine (HI.out _ (HCr.out.up (below_more (Below.refl _ _) _)) (below_more HBr.out _)).mono ?_; rintro e w5 ⟨hk5, he5⟩
                 obtain rfl : e = _ := he5)
              | fail)
            (exact ⟨rfl, (HKr.out.alloc _).trans hk5, by rw [HR.out, ← HD.out]; rfl⟩)
          · rw [hck] at hds HI
            simp only at hds; have HD : Hid (wchks (ws.drop (i + 1)) s2 p2 f2 = wchks ws (s + 1) p f) := hds; have hs2' := (wchk_le _ _ _ _ _ _ _ hck hs').1; clear hds hck
            go_wp2_with (first
              | (go_at_call 50
                 refine (HI.out _ (HCr.out.up (below_more (Below.refl _ _) _)) (below_more HBr.out _)).mono ?_; rintro e w5 ⟨hk5, rfl, hc5⟩; have HC5 : Hid (CkA w5 bc bp bf s2 p2 f2) := hc5; have HK5 : Hid (Kept (T3 bc bp bf) w w5) := (HKr.out.alloc _).trans hk5; (have HQ5 : Hid (w5.heap[w.heap.size]? = _) := (hk5.block _ (Nat.lt_of_lt_of_le (lt_of_block HQr.out) (by simp)) HT3.out).trans (alloc_keep HQr.out _))
                 clear hc5 hk5)
              | fail)
            go_roundg (ws.length - (i + 1))
            case measure => have := HG.out; have := HLt.out; omega
            case rel => exact ⟨i + 1, s2, p2, f2, HLt.out, rfl, by go_num, hs2', HC5, HK5, HQ5, HD⟩
        · have hge : ¬ (i : Int) < (ws.length : Int) := by omega
          have hds := HC.out; (rw [List.drop_of_length_le (by omega), wchks] at hds); (have HR2 : Hid (echk (.mk k n ws ks) s p f = echks ks s' p' f') := by show _ = _; rw [HR.out, ← hds]); obtain ⟨d0, d1, d2, d3⟩ := blk4L HQr.out; clear hlt hi hds HC HR HX HCV HKV HQV; go_wp2_with fail; clear d0 d1 d2 d3
          go_loopg [42] ks.length (fun gz v wk => ∃ i s2 p2 f2, i ≤ ks.length ∧ gz = ks.length - i ∧ v = .int .i64 (i : Nat) ∧ s2 ≤ 200 ∧ Hid (CkA wk bc bp bf s2 p2 f2) ∧ Hid (Kept (T3 bc bp bf) w wk) ∧ Hid (echks (ks.drop i) s2 p2 f2 = echks ks s' p' f'))
          case atStart => exact ⟨0, s', p', f', by omega, by omega, rfl, hs', HCr, HKr, by show _ = _; simp⟩
          case round =>
            obtain ⟨j, s2, p2, f2, hj, hg, rfl, hs2, HCk, HKk, HC⟩ := hrel; have HGk : Hid (gk = ks.length - j) := hg; clear hg; have HBk : Hid (Below w0.heap.size w0 wr) := kept3 HBw.out HNw.out HKk.out; by_cases hlt : j < ks.length
            · obtain ⟨⟨k3, n3, ws3, ks3⟩, hki⟩ : ∃ x, ks[j]? = some x := ⟨_, List.getElem?_eq_getElem hlt⟩
              (obtain ⟨b, off, rfl, hrs⟩ := HXk.out (fun e => by rw [e] at hlt; simp at hlt)); obtain ⟨sw3, cw3, sk3, ck3, z0, z1, z2, z3, hrep3⟩ := hrs.at j k3 n3 ws3 ks3 hki; have y0 := (HBk.out.cell (lt_of_cell z0)).trans z0; have y1 := (HBk.out.cell (lt_of_cell z1)).trans z1; have y2 := (HBk.out.cell (lt_of_cell z2)).trans z2; have y3 := (HBk.out.cell (lt_of_cell z3)).trans z3; (have hlt2 : (j : Int) < (ks.length : Int) := by omega); have hds := HC.out; rw [echks_drop hki] at hds; (have hsz : (Ex.mk k3 n3 ws3 ks3).size < m := by have := esizes_get hki; have := HMz.out; rw [Ex.size] at this; omega); (have HI : Hid (∀ W, CkA W bc bp bf s2 p2 f2 → Below w0.heap.size w0 W → Calls Tryz.prog 92 #[.pointer (some ⟨bc, 0, none⟩), .agg #[.int .i64 k3, .string n3, .slice sw3 ws3.length cw3, .slice sk3 ks3.length ck3]] W fun e w' => Kept (T3 bc bp bf) W w' ∧ CkPost bc bp bf (echk (.mk k3 n3 ws3 ks3) s2 p2 f2) e w') := fun W h1 h2 => ih _ _ w0 W bc bp bf s2 p2 f2 hsz hrep3 h2 HNw.out h1 hs2); have HLt : Hid (j < ks.length) := hlt; clear hki hrs hrep3 z0 z1 z2 z3 HXk HC hlt hsz
              rcases hck : echk (.mk k3 n3 ws3 ks3) s2 p2 f2 with ⟨c, a⟩ | ⟨s4, p4, f4⟩
              · rw [hck] at hds HI
                simp only at hds; have HD : Hid (CkR.bad c a = echks ks s' p' f') := hds; clear hds hck
                go_wp2_with (first
                  | (go_at_call 92
                     refine (HI.out _ (HCk.out.up (below_more (Below.refl _ _) _)) (below_more HBk.out _)).mono ?_; rintro e w5 ⟨hk5, he5⟩
                     obtain rfl : e = _ := he5)
                  | fail)
                (exact ⟨rfl, (HKk.out.alloc _).trans hk5, by rw [HR2.out, ← HD.out]; rfl⟩)
              · rw [hck] at hds HI
                simp only at hds; have HD : Hid (echks (ks.drop (j + 1)) s4 p4 f4 = echks ks s' p' f') := hds; have hs4 := (echk_le _ _ _ _ _ _ _ hck hs2).1; clear hds hck
                go_wp2_with (first
                  | (go_at_call 92
                     refine (HI.out _ (HCk.out.up (below_more (Below.refl _ _) _)) (below_more HBk.out _)).mono ?_; rintro e w5 ⟨hk5, rfl, hc5⟩; have HC5 : Hid (CkA w5 bc bp bf s4 p4 f4) := hc5; have HK5 : Hid (Kept (T3 bc bp bf) w w5) := (HKk.out.alloc _).trans hk5
                     clear hc5 hk5)
                  | fail)
                go_roundg (ks.length - (j + 1))
                case measure => have := HGk.out; have := HLt.out; omega
                case rel => exact ⟨j + 1, s4, p4, f4, HLt.out, rfl, by go_num, hs4, HC5, HK5, HD⟩
            · have hge : ¬ (j : Int) < (ks.length : Int) := by omega
              (have HE : Hid (ks.length ≤ j) := by show _ ≤ _; omega); clear hlt hj; go_wp2_with fail
              go_end0
              refine ⟨HKk.out, ?_⟩; rw [HR2.out, ← HC.out, List.drop_of_length_le HE.out, echks]; exact ⟨rfl, HCk.out⟩
    subst hk1; simp only [true_and, if_true] at hwc
    rcases hpb : plBad p n.data.toList ws.length with _ | _
    · rw [hpb] at hwc
      simp only [Bool.false_eq_true, if_false] at hwc; (have HR : Hid (echk (.mk 1 n ws ks) s p f = match wchks ws (s + 1) (plPut p n.data.toList ws.length) f with | .bad c a => .bad c a | .ok s p f => echks ks s p f) := hwc)
      have HCP : Hid (∀ W, PlM W bp p s → Calls Tryz.prog 101 #[.map (some bp), .string n, .int .i64 (ws.length : Nat), .int .i64 (s : Nat)] W fun e w' => e = .returned (.tuple #[]) ∧ PlM w' bp (plPut p n.data.toList ws.length) (s + 1) ∧ Kept (· ≠ bp) W w') := fun W h => by
        (have := checkPlaces_any n.data.toList HOk.out.1 ws.length HOk.out.2 (s : Nat) bp p s (by have := HS.out; omega) W h); rw [str_eta] at this; (exact this.mono fun e w' h => by unfold CPPost at h; rw [if_neg (by rw [hpb]; simp)] at h; exact h)
      clear hwc hpb; obtain ⟨b0, b1, b2, b3⟩ := blk4L HQ1.out
      go_enter Tryz.func92, Tryz.ntmps92
      go_wp2_with (first
        | (go_at_call 98
           refine HNx.out.mono ?_
           rintro e w1 ⟨rfl, rfl⟩)
        | (go_at_call 141
           refine (HCW.out _).mono ?_; rintro e w2 ⟨rfl, hb2⟩; have q2 := below_keep hb2 HQ1.out
           obtain ⟨e0, e1, e2, e3⟩ := blk4L q2)
        | fail)
      have HC2 : Hid (CkA w2 bc bp bf (s + 1) p f) := HC1.out.up hb2; have HM2 : Hid (PlM w2 bp p s) := HMp.out.up hb2; have HK2 : Hid (Kept (T3 bc bp bf) w w2) := keptBel HK1.out hb2; obtain ⟨c0, c1, c2, -⟩ := blk3 HC2.out.blk; have HQ2 : Hid (w2.heap[w.heap.size]? = some (.cells #[.int .i64 1, .string n, .slice sw ws.length cw, .slice sk ks.length ck] 25 (0, 0))) := q2; clear hb2 q2 HC1 HQ1 HK1 HMp HNx HCW
      go_region_held3 (fun w' => w'.cell? ⟨bc, 1, none⟩ = some (.map (some bp)) ∧ w'.cell? ⟨w.heap.size, 1, none⟩ = some (.string n) ∧ w'.cell? ⟨w.heap.size, 2, none⟩ = some (.slice sw ws.length cw)) (go_keep)
        (first
         | (go_at_call 101
            refine (HCP.out _ (HM2.out.up (Below.refl _ _).drew)).mono ?_; rintro e w4 ⟨rfl, hm4, hk4⟩; have hk5 : Kept (· ≠ bp) w2 w4 := ⟨hk4.os, hk4.tape, hk4.output, hk4.size, hk4.block⟩; have HCV : Hid (CkA w4 bc bp bf (s + 1) (plPut p n.data.toList ws.length) f) := ⟨(hk5.block _ (lt_of_block HC2.out.blk) HC2.out.nep.symm).trans HC2.out.blk, hm4, HC2.out.mf.same (hk5.block _ HC2.out.mf.lt HC2.out.ne.symm), HC2.out.ne⟩; (have HKV : Hid (Kept (T3 bc bp bf) w w4) := HK2.out.trans (hk5.mono fun _ _ h => h.2.1)); (have q4 := (hk5.block _ (lt_of_block HQ2.out) (fun e => HC2.out.mp.noCells _ _ _ (by rw [← e]; exact HQ2.out))).trans HQ2.out); have HQV : Hid (w4.heap[w.heap.size]? = some (.cells #[.int .i64 1, .string n, .slice sw ws.length cw, .slice sk ks.length ck] 25 (0, 0))) := q4; obtain ⟨t0, t1, t5, t6⟩ := blk4L q4; obtain ⟨t2, t3, t4, -⟩ := blk3 HCV.out.blk
            clear hm4 hk4 hk5 q4)
         | fail)
      all_goals
        go_wp2_with fail; clear t0 t1 t2 t3 t4 t5 t6
        go_loopg [31] ws.length (fun gz v wr => ∃ i s' p' f', i ≤ ws.length ∧ gz = ws.length - i ∧ v = .int .i64 (i : Nat) ∧ s' ≤ 200 ∧ Hid (CkA wr bc bp bf s' p' f') ∧ Hid (Kept (T3 bc bp bf) w wr) ∧ Hid (wr.heap[w.heap.size]? = some (.cells #[.int .i64 1, .string n, .slice sw ws.length cw, .slice sk ks.length ck] 25 (0, 0))) ∧ Hid (wchks (ws.drop i) s' p' f' = wchks ws (s + 1) (plPut p n.data.toList ws.length) f))
        case atStart => exact ⟨0, s + 1, (plPut p n.data.toList ws.length), f, by omega, by omega, rfl, by have := HS.out; omega, HCV, HKV, HQV, by show _ = _; simp⟩
        case round =>
          obtain ⟨i, s', p', f', hi, hg, rfl, hs', HCr, HKr, HQr, HC⟩ := hrel; have HG : Hid (gk = ws.length - i) := hg; clear hg; have HBr : Hid (Below w0.heap.size w0 wr) := kept3 HBw.out HNw.out HKr.out; by_cases hlt : i < ws.length
          · obtain ⟨⟨n2, ar2⟩, hki⟩ : ∃ x, ws[i]? = some x := ⟨_, List.getElem?_eq_getElem hlt⟩
            obtain ⟨b, off, sl2, cap2, rfl, z0, z1, hrep2⟩ := HX.out.at i n2 ar2 hki; have y0 := (HBr.out.cell (lt_of_cell z0)).trans z0; have y1 := (HBr.out.cell (lt_of_cell z1)).trans z1; (have hlt2 : (i : Int) < (ws.length : Int) := by omega); have hds := HC.out; rw [wchks_drop hki] at hds; (have HI : Hid (∀ W, CkA W bc bp bf s' p' f' → Below w0.heap.size w0 W → Calls Tryz.prog 50 #[.pointer (some ⟨bc, 0, none⟩), .agg #[.string n2, .slice sl2 ar2.length cap2]] W fun e w' => Kept (T3 bc bp bf) W w' ∧ CkPost bc bp bf (wchk (.mk n2 ar2) s' p' f') e w') := fun W h1 h2 => ckWord_any _ _ w0 W bc bp bf s' p' f' hrep2 h2 HNw.out h1 hs'); have HLt : Hid (i < ws.length) := hlt; clear hki hrep2 z0 z1 HC hlt
            rcases hck : wchk (.mk n2 ar2) s' p' f' with ⟨c, a⟩ | ⟨s2, p2, f2⟩
            · rw [hck] at hds HI
              simp only at hds; have HD : Hid (CkR.bad c a = wchks ws (s + 1) (plPut p n.data.toList ws.length) f) := hds; clear hds hck HX
              go_wp2_with (first
                | (go_at_call 50
                   refine (HI.out _ (HCr.out.up (below_more (Below.refl _ _) _)) (below_more HBr.out _)).mono ?_; rintro e w5 ⟨hk5, he5⟩
                   obtain rfl : e = _ := he5)
                | fail)
              (exact ⟨rfl, (HKr.out.alloc _).trans hk5, by rw [HR.out, ← HD.out]; rfl⟩)
            · rw [hck] at hds HI
              simp only at hds; have HD : Hid (wchks (ws.drop (i + 1)) s2 p2 f2 = wchks ws (s + 1) (plPut p n.data.toList ws.length) f) := hds; have hs2' := (wchk_le _ _ _ _ _ _ _ hck hs').1; clear hds hck
              go_wp2_with (first
                | (go_at_call 50
                   refine (HI.out _ (HCr.out.up (below_more (Below.refl _ _) _)) (below_more HBr.out _)).mono ?_; rintro e w5 ⟨hk5, rfl, hc5⟩; have HC5 : Hid (CkA w5 bc bp bf s2 p2 f2) := hc5; have HK5 : Hid (Kept (T3 bc bp bf) w w5) := (HKr.out.alloc _).trans hk5; (have HQ5 : Hid (w5.heap[w.heap.size]? = _) := (hk5.block _ (Nat.lt_of_lt_of_le (lt_of_block HQr.out) (by simp)) HT3.out).trans (alloc_keep HQr.out _))
                   clear hc5 hk5)
                | fail)
              go_roundg (ws.length - (i + 1))
              case measure => have := HG.out; have := HLt.out; omega
              case rel => exact ⟨i + 1, s2, p2, f2, HLt.out, rfl, by go_num, hs2', HC5, HK5, HQ5, HD⟩
          · have hge : ¬ (i : Int) < (ws.length : Int) := by omega
            have hds := HC.out; (rw [List.drop_of_length_le (by omega), wchks] at hds); (have HR2 : Hid (echk (.mk 1 n ws ks) s p f = echks ks s' p' f') := by show _ = _; rw [HR.out, ← hds]); obtain ⟨d0, d1, d2, d3⟩ := blk4L HQr.out; clear hlt hi hds HC HR HX HCV HKV HQV; go_wp2_with fail; clear d0 d1 d2 d3
            go_loopg [42] ks.length (fun gz v wk => ∃ i s2 p2 f2, i ≤ ks.length ∧ gz = ks.length - i ∧ v = .int .i64 (i : Nat) ∧ s2 ≤ 200 ∧ Hid (CkA wk bc bp bf s2 p2 f2) ∧ Hid (Kept (T3 bc bp bf) w wk) ∧ Hid (echks (ks.drop i) s2 p2 f2 = echks ks s' p' f'))
            case atStart => exact ⟨0, s', p', f', by omega, by omega, rfl, hs', HCr, HKr, by show _ = _; simp⟩
            case round =>
              obtain ⟨j, s2, p2, f2, hj, hg, rfl, hs2, HCk, HKk, HC⟩ := hrel; have HGk : Hid (gk = ks.length - j) := hg; clear hg; have HBk : Hid (Below w0.heap.size w0 wr) := kept3 HBw.out HNw.out HKk.out; by_cases hlt : j < ks.length
              · obtain ⟨⟨k3, n3, ws3, ks3⟩, hki⟩ : ∃ x, ks[j]? = some x := ⟨_, List.getElem?_eq_getElem hlt⟩
                (obtain ⟨b, off, rfl, hrs⟩ := HXk.out (fun e => by rw [e] at hlt; simp at hlt)); obtain ⟨sw3, cw3, sk3, ck3, z0, z1, z2, z3, hrep3⟩ := hrs.at j k3 n3 ws3 ks3 hki; have y0 := (HBk.out.cell (lt_of_cell z0)).trans z0; have y1 := (HBk.out.cell (lt_of_cell z1)).trans z1; have y2 := (HBk.out.cell (lt_of_cell z2)).trans z2; have y3 := (HBk.out.cell (lt_of_cell z3)).trans z3; (have hlt2 : (j : Int) < (ks.length : Int) := by omega); have hds := HC.out; rw [echks_drop hki] at hds; (have hsz : (Ex.mk k3 n3 ws3 ks3).size < m := by have := esizes_get hki; have := HMz.out; rw [Ex.size] at this; omega); (have HI : Hid (∀ W, CkA W bc bp bf s2 p2 f2 → Below w0.heap.size w0 W → Calls Tryz.prog 92 #[.pointer (some ⟨bc, 0, none⟩), .agg #[.int .i64 k3, .string n3, .slice sw3 ws3.length cw3, .slice sk3 ks3.length ck3]] W fun e w' => Kept (T3 bc bp bf) W w' ∧ CkPost bc bp bf (echk (.mk k3 n3 ws3 ks3) s2 p2 f2) e w') := fun W h1 h2 => ih _ _ w0 W bc bp bf s2 p2 f2 hsz hrep3 h2 HNw.out h1 hs2); have HLt : Hid (j < ks.length) := hlt; clear hki hrs hrep3 z0 z1 z2 z3 HXk HC hlt hsz
                rcases hck : echk (.mk k3 n3 ws3 ks3) s2 p2 f2 with ⟨c, a⟩ | ⟨s4, p4, f4⟩
                · rw [hck] at hds HI
                  simp only at hds; have HD : Hid (CkR.bad c a = echks ks s' p' f') := hds; clear hds hck
                  go_wp2_with (first
                    | (go_at_call 92
                       refine (HI.out _ (HCk.out.up (below_more (Below.refl _ _) _)) (below_more HBk.out _)).mono ?_; rintro e w5 ⟨hk5, he5⟩
                       obtain rfl : e = _ := he5)
                    | fail)
                  (exact ⟨rfl, (HKk.out.alloc _).trans hk5, by rw [HR2.out, ← HD.out]; rfl⟩)
                · rw [hck] at hds HI
                  simp only at hds; have HD : Hid (echks (ks.drop (j + 1)) s4 p4 f4 = echks ks s' p' f') := hds; have hs4 := (echk_le _ _ _ _ _ _ _ hck hs2).1; clear hds hck
                  go_wp2_with (first
                    | (go_at_call 92
                       refine (HI.out _ (HCk.out.up (below_more (Below.refl _ _) _)) (below_more HBk.out _)).mono ?_; rintro e w5 ⟨hk5, rfl, hc5⟩; have HC5 : Hid (CkA w5 bc bp bf s4 p4 f4) := hc5; have HK5 : Hid (Kept (T3 bc bp bf) w w5) := (HKk.out.alloc _).trans hk5
                       clear hc5 hk5)
                    | fail)
                  go_roundg (ks.length - (j + 1))
                  case measure => have := HGk.out; have := HLt.out; omega
                  case rel => exact ⟨j + 1, s4, p4, f4, HLt.out, rfl, by go_num, hs4, HC5, HK5, HD⟩
              · have hge : ¬ (j : Int) < (ks.length : Int) := by omega
                (have HE : Hid (ks.length ≤ j) := by show _ ≤ _; omega); clear hlt hj; go_wp2_with fail
                go_end0
                refine ⟨HKk.out, ?_⟩; rw [HR2.out, ← HC.out, List.drop_of_length_le HE.out, echks]; exact ⟨rfl, HCk.out⟩
    · rw [hpb] at hwc
      simp only [if_true] at hwc; have HR : Hid (echk (.mk 1 n ws ks) s p f = .bad 5 s) := hwc
      have HCP : Hid (∀ W, PlM W bp p s → Calls Tryz.prog 101 #[.map (some bp), .string n, .int .i64 (ws.length : Nat), .int .i64 (s : Nat)] W fun e w' => e = .panicked (stopC 5 (s : Nat)) ∧ w' = W) := fun W h => by
        (have := checkPlaces_any n.data.toList HOk.out.1 ws.length HOk.out.2 (s : Nat) bp p s (by have := HS.out; omega) W h); rw [str_eta] at this; (exact this.mono fun e w' h => by unfold CPPost at h; rw [if_pos hpb] at h; exact h)
      clear hwc hpb HX HXk; obtain ⟨b0, b1, b2, b3⟩ := blk4L HQ1.out
      go_enter Tryz.func92, Tryz.ntmps92
      go_wp2_with (first
        | (go_at_call 98
           refine HNx.out.mono ?_
           rintro e w1 ⟨rfl, rfl⟩)
        | (go_at_call 141
           refine (HCW.out _).mono ?_; rintro e w2 ⟨rfl, hb2⟩; have q2 := below_keep hb2 HQ1.out
           obtain ⟨e0, e1, e2, e3⟩ := blk4L q2)
        | fail)
      have HC2 : Hid (CkA w2 bc bp bf (s + 1) p f) := HC1.out.up hb2; have HM2 : Hid (PlM w2 bp p s) := HMp.out.up hb2; have HK2 : Hid (Kept (T3 bc bp bf) w w2) := keptBel HK1.out hb2; have HQ2 : Hid (w2.heap[w.heap.size]? = some (.cells #[.int .i64 1, .string n, .slice sw ws.length cw, .slice sk ks.length ck] 25 (0, 0))) := q2; clear hb2 q2 HC1 HQ1 HK1 HMp HNx HCW e0 e1 e2 e3 b0 b1 b2 b3; (refine wp_region_end (by kernel_rfl) [fun v _ => v = (.pointer (some ⟨bc, 0, none⟩)), fun v _ => v = (.pointer (some ⟨bc, 0, none⟩)), fun v _ => v = (.pointer (some ⟨bc, 1, none⟩)), fun v _ => v = (.map (some bp)), fun v _ => v = (.pointer (some ⟨w.heap.size, 1, none⟩)), fun v _ => v = (.string n), fun v _ => v = (.pointer (some ⟨w.heap.size, 2, none⟩)), fun v _ => v = (.slice sw ws.length cw), fun v _ => v = (.int .i64 (ws.length : Nat)), fun v _ => v = (.int .i64 (s : Nat))] ?_ (by kernel_rfl) (by kernel_rfl) 50 rfl (by kernel_rfl) 10 _ rfl rfl 6 (by kernel_rfl) ?_ ?_)
      · intro p hp
        simp only [List.mem_cons, List.not_mem_nil, or_false] at hp
        rcases hp with rfl | rfl | rfl | rfl | rfl | rfl | rfl | rfl | rfl | rfl
        · exact fun _ _ _ h _ => h
        · exact fun _ _ _ h _ => h
        · exact fun _ _ _ h _ => h
        · exact fun _ _ _ h _ => h
        · exact fun _ _ _ h _ => h
        · exact fun _ _ _ h _ => h
        · exact fun _ _ _ h _ => h
        · exact fun _ _ _ h _ => h
        · exact fun _ _ _ h _ => h
        · exact fun _ _ _ h _ => h
      · refine ⟨?_, ?_, ?_, ?_, ?_, ?_, ?_, ?_, ?_, ?_, trivial⟩
        · intro a wx hB hold hdep K hK
          have t0 : a.tmps[0]? = some (.pointer (some ⟨bc, 0, none⟩)) := hold.2.2 0 rfl; clear hold hdep; go_simp; exact hK.out _ _ rfl (Below.refl _ _)
        · intro a wx hB hold hdep K hK
          obtain ⟨v17, t17, p17⟩ := hdep 0 rfl _ 17 rfl rfl; have e17 : v17 = (.pointer (some ⟨bc, 0, none⟩)) := p17; subst e17; have hcb := blk3 (below_keep hB HC2.out.blk); obtain ⟨f0, f1, f2, -⟩ := hcb; clear hold hdep; go_simp; exact hK.out _ _ rfl (Below.refl _ _)
        · intro a wx hB hold hdep K hK
          obtain ⟨v18, t18, p18⟩ := hdep 1 rfl _ 18 rfl rfl; have e18 : v18 = (.pointer (some ⟨bc, 0, none⟩)) := p18; subst e18; have hcb := blk3 (below_keep hB HC2.out.blk); obtain ⟨f0, f1, f2, -⟩ := hcb; clear hold hdep; go_simp; exact hK.out _ _ rfl (Below.refl _ _)
        · intro a wx hB hold hdep K hK
          obtain ⟨v19, t19, p19⟩ := hdep 2 rfl _ 19 rfl rfl; have e19 : v19 = (.pointer (some ⟨bc, 1, none⟩)) := p19; subst e19; have hcb := blk3 (below_keep hB HC2.out.blk); obtain ⟨f0, f1, f2, -⟩ := hcb; clear hold hdep; go_simp; exact hK.out _ _ rfl (Below.refl _ _)
        · intro a wx hB hold hdep K hK
          have t3 : a.tmps[3]? = some (.pointer (some ⟨w.heap.size, 0, none⟩)) := hold.2.2 3 rfl; clear hold hdep; go_simp; exact hK.out _ _ rfl (Below.refl _ _)
        · intro a wx hB hold hdep K hK
          obtain ⟨v21, t21, p21⟩ := hdep 4 rfl _ 21 rfl rfl; have e21 : v21 = (.pointer (some ⟨w.heap.size, 1, none⟩)) := p21; subst e21; have hqb := blk4L (below_keep hB HQ2.out); obtain ⟨f0, f1, f2, f3⟩ := hqb; clear hold hdep; go_simp; exact hK.out _ _ rfl (Below.refl _ _)
        · intro a wx hB hold hdep K hK
          have t3 : a.tmps[3]? = some (.pointer (some ⟨w.heap.size, 0, none⟩)) := hold.2.2 3 rfl; clear hold hdep; go_simp; exact hK.out _ _ rfl (Below.refl _ _)
        · intro a wx hB hold hdep K hK
          obtain ⟨v23, t23, p23⟩ := hdep 6 rfl _ 23 rfl rfl; have e23 : v23 = (.pointer (some ⟨w.heap.size, 2, none⟩)) := p23; subst e23; have hqb := blk4L (below_keep hB HQ2.out); obtain ⟨f0, f1, f2, f3⟩ := hqb; clear hold hdep; go_simp; exact hK.out _ _ rfl (Below.refl _ _)
        · intro a wx hB hold hdep K hK
          obtain ⟨v24, t24, p24⟩ := hdep 7 rfl _ 24 rfl rfl; have e24 : v24 = (.slice sw ws.length cw) := p24; subst e24; clear hold hdep; go_simp; exact hK.out _ _ rfl (Below.refl _ _)
        · intro a wx hB hold hdep K hK
          have t4 : a.tmps[4]? = some (.int .i64 (s : Nat)) := hold.2.2 4 rfl; clear hold hdep; go_simp; exact hK.out _ _ rfl (Below.refl _ _)
      · intro a wx hB hold hgot K hK
        (obtain ⟨A, tA, pA⟩ := hgot 3 _ 20 (by omega) rfl rfl); have eA : A = (.map (some bp)) := pA; subst eA; (obtain ⟨B, tB, pB⟩ := hgot 5 _ 22 (by omega) rfl rfl); have eB : B = (.string n) := pB; subst eB; (obtain ⟨C, tC, pC⟩ := hgot 8 _ 25 (by omega) rfl rfl); have eC : C = (.int .i64 (ws.length : Nat)) := pC; subst eC; (obtain ⟨D, tD, pD⟩ := hgot 9 _ 26 (by omega) rfl rfl); have eD : D = (.int .i64 (s : Nat)) := pD; subst eD; obtain ⟨tm, df⟩ := a; (obtain ⟨ys, hys, htm, rfl⟩ := frame_mid2 17 11 (by kernel_rfl) (Nat.le_of_ble_eq_true rfl) hold); obtain ⟨z17, z18, z19, z20, z21, z22, z23, z24, z25, z26, z27, rfl⟩ := rowFW11 ys hys; simp only [List.take_succ_cons, List.take_zero, List.drop_succ_cons, List.drop_zero, List.cons_append, List.nil_append] at htm; subst htm; obtain rfl : z20 = _ := someInjM tA; obtain rfl : z22 = _ := someInjM tB; obtain rfl : z25 = _ := someInjM tC; obtain rfl : z26 = _ := someInjM tD; have HMx : Hid (PlM wx bp p s) := HM2.out.up hB; have HKx : Hid (Kept (T3 bc bp bf) w wx) := keptBel HK2.out hB; clear hys hold hgot tA tB tC tD hB; go_simp; refine (HCP.out wx HMx.out).mono ?_; rintro _ w4 ⟨rfl, rfl⟩; (exact ⟨rfl, HKx.out, by rw [HR.out]; rfl⟩)
  · rw [hnf] at hwc HCW
    simp only at hwc; unfold NdPost at HCW; simp only at HCW; have HR : Hid (echk (.mk k n ws ks) s p f = .bad c s) := hwc; clear hwc hnf HX HXk; obtain ⟨b0, b1, b2, b3⟩ := blk4L HQ1.out
    go_enter Tryz.func92, Tryz.ntmps92
    go_wp2_with (first
      | (go_at_call 98
         refine HNx.out.mono ?_
         rintro e w1 ⟨rfl, rfl⟩)
      | (go_at_call 141
         refine (HCW.out _).mono ?_
         rintro e w2 ⟨rfl, hb2⟩)
      | fail)
    (exact ⟨rfl, keptBel HK1.out hb2, by rw [HR.out]; rfl⟩)
theorem exprs_all : ∀ m, ELooks m
  | 0 => fun _ _ _ _ _ _ _ _ _ _ h => absurd h (Nat.not_lt_zero _)
  | m + 1 => expr_step m (exprs_all m)
theorem ckExpr_any (x : Ex) (v : Value) (w0 w : World) (bc bp bf s : Nat) (p f : PlF) (hrep : ERp w0 x v) (hbw : Below w0.heap.size w0 w) (hnew : New3 w0.heap.size bc bp bf) (hc : CkA w bc bp bf s p f) (hs : s ≤ 200) :
    Calls Tryz.prog 92 #[.pointer (some ⟨bc, 0, none⟩), v] w fun e w' => Kept (T3 bc bp bf) w w' ∧ CkPost bc bp bf (echk x s p f) e w' :=
  exprs_all (x.size + 1) x v w0 w bc bp bf s p f (Nat.lt_succ_self _) hrep hbw hnew hc hs
end Go.Proofs.YtheiikkeelbjnajGreat
/- Walks: first.Check. -/
namespace Go.Proofs.YtheiikkeelbjnajGreat
open Go.RowKit Go.Sort Go.Maps Go.WideMaps

theorem rowFW3 (l : List Value) (h0 : l.length = 3) : ∃ x0 x1 x2, l = [x0, x1, x2] := by
  obtain ⟨x0, l1, e0, h1⟩ := cons_lenM h0; obtain ⟨x1, l2, e1, h2⟩ := cons_lenM h1; obtain ⟨x2, l3, e2, h3⟩ := cons_lenM h2; have e3 : l3 = [] := List.length_eq_zero_iff.1 h3; subst e3 e2 e1 e0; exact ⟨x0, x1, x2, rfl⟩
set_option maxHeartbeats 1000000 in
theorem newCk_any (w : World) :
    Calls Tryz.prog 49 #[] w fun e w' => ∃ bc bp bf, e = .returned (.pointer (some ⟨bc, 0, none⟩)) ∧ CkA w' bc bp bf 0 (fun _ => none) (fun _ => none) ∧ New3 w.heap.size bc bp bf ∧ Below w.heap.size w w' := by
  have h1 : (((w.alloc (.map #[] 0)).alloc (.map #[] 0)).alloc (.cells #[.int .i64 0, .map (some w.heap.size), .map (some (w.heap.size + 1))] 142 (0, 0))).heap[w.heap.size + 1 + 1]? = some (.cells #[.int .i64 0, .map (some w.heap.size), .map (some (w.heap.size + 1))] 142 (0, 0)) := by
    have := blk_new ((w.alloc (.map #[] 0)).alloc (.map #[] 0)) (.cells #[.int .i64 0, .map (some w.heap.size), .map (some (w.heap.size + 1))] 142 (0, 0)); simpa using this
  (have e1 : (w.alloc (.map #[] 0)).heap.size = w.heap.size + 1 := by simp); (have p1 : PlM (w.alloc (.map #[] 0)) w.heap.size (fun _ => none) 0 := PlM.nil)
  have p2 : PlM ((w.alloc (.map #[] 0)).alloc (.map #[] 0)) (w.heap.size + 1) (fun _ => none) 0 := by
    have := PlM.nil (w := w.alloc (.map #[] 0))
    rwa [e1] at this
  (have HC : Hid (CkA (((w.alloc (.map #[] 0)).alloc (.map #[] 0)).alloc (.cells #[.int .i64 0, .map (some w.heap.size), .map (some (w.heap.size + 1))] 142 (0, 0))) (w.heap.size + 1 + 1) w.heap.size (w.heap.size + 1) 0 (fun _ => none) (fun _ => none)) := ⟨h1, (p1.up (below_more (Below.refl _ _) _)).up (below_more (Below.refl _ _) _), p2.up (below_more (Below.refl _ _) _), by omega⟩); have HB : Hid (Below w.heap.size w (((w.alloc (.map #[] 0)).alloc (.map #[] 0)).alloc (.cells #[.int .i64 0, .map (some w.heap.size), .map (some (w.heap.size + 1))] 142 (0, 0)))) := below_more (below_more (below_more (Below.refl _ _) _) _) _; clear h1 p1 p2 e1; have hmm := @run_makeMap Tryz.prog
  go_enter Tryz.func49, Tryz.ntmps49
  go_wp2_with fail; go_ret; (exact ⟨w.heap.size + 1 + 1, rfl, w.heap.size, w.heap.size + 1, HC.out, ⟨by omega, by omega, by omega⟩, HB.out⟩)
/-- What Check says of an expression. -/
def ecode (x : Ex) : Int × Int := match echk x 0 (fun _ => none) (fun _ => none) with
  | .ok _ _ _ => (0, 0)
  | .bad c a => (c, (a : Int))
def CkEnd : CkR → Ending → Prop
  | .ok _ _ _, e => e = .returned (.tuple #[])
  | .bad c a, e => e = .panicked (stopC c (a : Nat))
theorem echeck1_in (cap : Array Value) (w : World) : (callFunc 95 cap).run Tryz.prog w = .ok (.enter 95 cap) w := by
  simp [go_sem]
set_option maxRecDepth 10000 in
set_option maxHeartbeats 2000000 in
theorem echeck1_any (be : Nat) (k : Int) (n : ByteArray) (ws : List Wd) (ks : List Ex) (sw sk : Option Addr) (cw ck : Nat) (w : World) (q0 : w.heap[be]? = some (.cells #[.int .i64 k, .string n, .slice sw ws.length cw, .slice sk ks.length ck] 25 (0, 0)))
    (hrep : ERp w (.mk k n ws ks) (.agg #[.int .i64 k, .string n, .slice sw ws.length cw, .slice sk ks.length ck])) (x : CkR) (hx : echk (.mk k n ws ks) 0 (fun _ => none) (fun _ => none) = x) :
    Calls Tryz.prog 95 #[.pointer (some ⟨be, 0, none⟩)] w fun e w' => Kept (fun _ => True) w w' ∧ CkEnd x e := by
  have HQ : Hid (w.heap[be]? = some (.cells #[.int .i64 k, .string n, .slice sw ws.length cw, .slice sk ks.length ck] 25 (0, 0))) := q0; (have HNc : Hid (∀ W, Calls Tryz.prog 49 #[] W _) := fun W => newCk_any W)
  have HEx : Hid (∀ W bc bp bf, Below w.heap.size w W → New3 w.heap.size bc bp bf → CkA W bc bp bf 0 (fun _ => none) (fun _ => none) → Calls Tryz.prog 92 #[.pointer (some ⟨bc, 0, none⟩), .agg #[.int .i64 k, .string n, .slice sw ws.length cw, .slice sk ks.length ck]] W fun e w' => Kept (T3 bc bp bf) W w' ∧ CkPost bc bp bf x e w') := fun W bc bp bf h1 h2 h3 => by
    rw [← hx]; (exact ckExpr_any _ _ w W bc bp bf 0 _ _ hrep h1 h2 h3 (by omega))
  clear q0 hrep hx
  go_enter Tryz.func95, Tryz.ntmps95
  go_wp2_with fail; (refine wp_region_end (by kernel_rfl) [fun v w9 => ∃ bc bp bf, v = .pointer (some ⟨bc, 0, none⟩) ∧ CkA w9 bc bp bf 0 (fun _ => none) (fun _ => none) ∧ New3 w.heap.size bc bp bf, fun v _ => v = (.agg #[.int .i64 k, .string n, .slice sw ws.length cw, .slice sk ks.length ck])] ?_ (by kernel_rfl) (by kernel_rfl) 4 rfl (by kernel_rfl) 2 _ rfl rfl 6 (by kernel_rfl) ?_ ?_)
  · intro p hp
    simp only [List.mem_cons, List.not_mem_nil, or_false] at hp
    rcases hp with rfl | rfl
    · rintro v w1 w2 ⟨bc, bp, bf, e, h1, h2⟩ hb
      exact ⟨bc, bp, bf, e, h1.up hb, h2⟩
    · exact fun _ _ _ h _ => h
  · refine ⟨?_, ?_, trivial⟩
    · intro a wx hB hold hdep K hK
      have HBs := hB.size; clear hold hdep; go_simp; refine (HNc.out wx).mono ?_; rintro _ w9 ⟨bc, bp, bf, rfl, hc, hn, hb9⟩; (have HC9 : Hid (CkA w9 bc bp bf 0 (fun _ => none) (fun _ => none) ∧ New3 w.heap.size bc bp bf) := ⟨hc, by obtain ⟨n1, n2, n3⟩ := hn; exact ⟨by omega, by omega, by omega⟩⟩); clear hc hn; go_simp; exact hK.out _ _ ⟨bc, bp, bf, rfl, HC9.out.1, HC9.out.2⟩ hb9
    · intro a wx hB hold hdep K hK
      have t0 : a.tmps[0]? = some (.pointer (some ⟨be, 0, none⟩)) := hold.2.2 0 rfl; have hqb := blk4L (below_keep hB HQ.out); obtain ⟨f0, f1, f2, f3⟩ := hqb; clear hold hdep; go_simp; exact hK.out _ _ rfl (Below.refl _ _)
  · intro a wx hB hold hgot K hK
    (obtain ⟨A, tA, pA⟩ := hgot 0 _ 1 (by omega) rfl rfl); (obtain ⟨B, tB, pB⟩ := hgot 1 _ 2 (by omega) rfl rfl); have eB : B = (.agg #[.int .i64 k, .string n, .slice sw ws.length cw, .slice sk ks.length ck]) := pB; subst eB; obtain ⟨bc, bp, bf, rfl, hca, hna⟩ := pA; (have HCx : Hid (CkA wx bc bp bf 0 (fun _ => none) (fun _ => none) ∧ New3 w.heap.size bc bp bf) := ⟨hca, hna⟩); have HBx : Hid (Below w.heap.size w wx) := hB; obtain ⟨tm, df⟩ := a; (obtain ⟨ys, hys, htm, rfl⟩ := frame_mid2 1 3 (by kernel_rfl) (Nat.le_of_ble_eq_true rfl) hold); obtain ⟨z1, z2, z3, rfl⟩ := rowFW3 ys hys; simp only [List.take_succ_cons, List.take_zero, List.drop_succ_cons, List.drop_zero, List.cons_append, List.nil_append] at htm; subst htm; obtain rfl : z1 = _ := someInjM tA; obtain rfl : z2 = _ := someInjM tB; clear hys hold hgot tA tB hB hca hna
    cases x with
    | ok s p f =>
      go_simp; refine (HEx.out wx bc bp bf HBx.out HCx.out.2 HCx.out.1).mono ?_; rintro _ w5 ⟨hk5, rfl, -⟩; have HB5 : Hid (Below w.heap.size w w5) := kept3 HBx.out HCx.out.2 hk5; clear hk5; go_simp; refine hK.out _ _ ?_; clear hK; go_wp2_with fail
      go_end0
      exact ⟨kept_of_below (ok := fun _ => True) (B := w.heap.size) HB5.out (fun _ h _ => h), rfl⟩
    | bad c a =>
      go_simp; refine (HEx.out wx bc bp bf HBx.out HCx.out.2 HCx.out.1).mono ?_; rintro e w5 ⟨hk5, he5⟩; obtain rfl : e = _ := he5; (exact ⟨rfl, kept_of_below (ok := fun _ => True) (B := w.heap.size) (kept3 HBx.out HCx.out.2 hk5) (fun _ h _ => h), rfl⟩)
set_option maxHeartbeats 1000000 in
theorem echeck_any (x : Ex) (v : Value) (w : World) (hrep : ERp w x v) :
    Calls Tryz.prog 45 #[v] w fun e w' => e = .returned (.agg #[.int .i64 (ecode x).1, .int .i64 (ecode x).2]) ∧ Below w.heap.size w w' := by
  obtain ⟨k, n, ws, ks⟩ := x; obtain ⟨sw, cw, sk, ck, rfl, hx1, hx2, hx3, hx4, -⟩ := ERp.def.1 hrep; (have hmf : ∀ (fn : Fn) (first cap : Array Value) (w : World), (Instr.makeFunc fn first cap).run Tryz.prog w = .ok (.func fn first cap) w := fun _ _ _ _ => rfl)
  rcases hx : echk (.mk k n ws ks) 0 (fun _ => none) (fun _ => none) with ⟨c, a⟩ | ⟨s, p, f⟩
  · have hcode : ecode (Ex.mk k n ws ks) = (c, (a : Int)) := by simp only [ecode, hx]
    rw [hcode]
    go_enter Tryz.func45, Tryz.ntmps45
    go_wp2_with (first
      | (go_at_call 47
         (refine (caught_bad 95 _ _ (fun w1 => w1.heap[w.heap.size + 1]? = some (.cells #[.int .i64 0, .int .i64 0] 32 (0, 0)) ∧ Below w.heap.size w w1) c a (echeck1_in _) ?_).mono ?_)
         · refine (echeck1_any w.heap.size k n ws ks sw sk cw ck _ two_new.1 (ERp.up (below_more (below_more (below_more (Below.refl _ _) _) _) _) _ _ hrep) _ hx).mono ?_
           rintro e w1 ⟨hk, rfl⟩; (exact ⟨rfl, (hk.block _ (by simp) trivial).trans (blk_new _ _), (hk.block _ (by simp) trivial).trans two_new.2, ((((Kept.refl _ w).alloc _).alloc _).alloc _ |>.trans hk).below (Nat.le_refl _) (fun _ _ => trivial)⟩)
         rintro e w2 ⟨rfl, w1, ⟨q1, hb1⟩, hk2⟩; have z1 := lt_of_block q1; (have q3 := (hk2.block _ z1 (by simp)).trans q1)
         obtain ⟨k1, k2, k3, k4⟩ := blk2 q3)
      | fail)
    have hz := hb1.size; have hz2 := hk2.size; (have b1 : Below w.heap.size w w2 := ((kept_of_below (ok := fun k => k < w.heap.size) hb1 (fun _ _ h => h)).trans (hk2.mono (fun k _ h => by simp; omega))).below (Nat.le_refl _) (fun _ h => h)); have f2 := set2 q3 (.int .i64 c) (.int .i64 a); (have b2 := (b1.setCell (p := ⟨w.heap.size + 1, 0, none⟩) (by simp) (.int .i64 c)).setCell (p := ⟨w.heap.size + 1, 1, none⟩) (by simp) (.int .i64 a)); generalize World.setCell _ _ _ = F at f2 b2 ⊢; clear k1 k2 k3 k4; obtain ⟨k1, k2, -⟩ := blk2 f2; (exact bodyPost_ret (v := .agg #[.int .i64 c, .int .i64 a]) (by simp [results, Tryz.results45, go_sem, k1, k2]) rfl ⟨rfl, b2⟩)
  · have hcode : ecode (Ex.mk k n ws ks) = (0, 0) := by simp only [ecode, hx]
    rw [hcode]
    go_enter Tryz.func45, Tryz.ntmps45
    go_wp2_with (first
      | (go_at_call 47
         (refine (caught_ok 95 _ _ (fun w1 => w1.heap[w.heap.size + 1]? = some (.cells #[.int .i64 0, .int .i64 0] 32 (0, 0)) ∧ Below w.heap.size w w1) (echeck1_in _) ?_).mono ?_)
         · refine (echeck1_any w.heap.size k n ws ks sw sk cw ck _ two_new.1 (ERp.up (below_more (below_more (below_more (Below.refl _ _) _) _) _) _ _ hrep) _ hx).mono ?_
           rintro e w1 ⟨hk, rfl⟩; (exact ⟨rfl, (hk.block _ (by simp) trivial).trans (blk_new _ _), (hk.block _ (by simp) trivial).trans two_new.2, ((((Kept.refl _ w).alloc _).alloc _).alloc _ |>.trans hk).below (Nat.le_refl _) (fun _ _ => trivial)⟩)
         rintro e w2 ⟨rfl, w1, ⟨q1, hb1⟩, hk2⟩; have z1 := lt_of_block q1; (have q3 := (hk2.block _ z1 (by simp)).trans q1)
         obtain ⟨k1, k2, k3, k4⟩ := blk2 q3)
      | fail)
    have hz := hb1.size; have hz2 := hk2.size; (have b1 : Below w.heap.size w w2 := ((kept_of_below (ok := fun k => k < w.heap.size) hb1 (fun _ _ h => h)).trans (hk2.mono (fun k _ h => by simp; omega))).below (Nat.le_refl _) (fun _ h => h)); have f2 := set2 q3 (.int .i64 0) (.int .i64 0); (have b2 := (b1.setCell (p := ⟨w.heap.size + 1, 0, none⟩) (by simp) (.int .i64 0)).setCell (p := ⟨w.heap.size + 1, 1, none⟩) (by simp) (.int .i64 0)); generalize World.setCell _ _ _ = F at f2 b2 ⊢; clear k1 k2 k3 k4; obtain ⟨k1, k2, -⟩ := blk2 f2; (exact bodyPost_ret (v := .agg #[.int .i64 0, .int .i64 0]) (by simp [results, Tryz.results45, go_sem, k1, k2]) rfl ⟨rfl, b2⟩)
theorem enode_code {k : Int} {n : ByteArray} {wl kl : Nat} {c : Int} (h : enodeF k n wl kl = some c) : c ≠ 0 := by
  unfold enodeF at h
  split at h
  · cases h; decide
  · split at h
    · cases h; decide
    · split at h
      · cases h; decide
      · cases h
theorem wnode_code {n : ByteArray} {al : Nat} {c : Int} (h : wnodeF n al = some c) : c ≠ 0 := by
  unfold wnodeF at h
  split at h
  · cases h; decide
  · split at h
    · cases h; decide
    · cases h
mutual
theorem wchk_code : ∀ (x : Wd) (s : Nat) (p f : PlF) (c : Int) (a : Nat), wchk x s p f = .bad c a → c ≠ 0
  | .mk n ar, s, p, f, c, a, h => by
    rw [wchk] at h
    split at h
    · cases h; decide
    · split at h
      · rename_i h2
        cases h
        exact wnode_code h2
      · split at h
        · split at h
          · cases h; decide
          · exact wchks_code ar _ _ _ _ _ h
        · exact wchks_code ar _ _ _ _ _ h
theorem wchks_code : ∀ (l : List Wd) (s : Nat) (p f : PlF) (c : Int) (a : Nat), wchks l s p f = .bad c a → c ≠ 0
  | [], s, p, f, c, a, h => by rw [wchks] at h; cases h
  | x :: xs, s, p, f, c, a, h => by
    rw [wchks] at h
    split at h
    · rename_i h1
      cases h
      exact wchk_code x _ _ _ _ _ h1
    · exact wchks_code xs _ _ _ _ _ h
end
mutual
theorem echk_code : ∀ (x : Ex) (s : Nat) (p f : PlF) (c : Int) (a : Nat), echk x s p f = .bad c a → c ≠ 0
  | .mk k n ws ks, s, p, f, c, a, h => by
    rw [echk] at h
    split at h
    · cases h; decide
    · split at h
      · rename_i h2
        cases h
        exact enode_code h2
      · split at h
        · cases h; decide
        · split at h
          · rename_i h1
            cases h
            exact wchks_code ws _ _ _ _ _ h1
          · exact echks_code ks _ _ _ _ _ h
theorem echks_code : ∀ (l : List Ex) (s : Nat) (p f : PlF) (c : Int) (a : Nat), echks l s p f = .bad c a → c ≠ 0
  | [], s, p, f, c, a, h => by rw [echks] at h; cases h
  | x :: xs, s, p, f, c, a, h => by
    rw [echks] at h
    split at h
    · rename_i h1
      cases h
      exact echk_code x _ _ _ _ _ h1
    · exact echks_code xs _ _ _ _ _ h
end
end Go.Proofs.YtheiikkeelbjnajGreat
