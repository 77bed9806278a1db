/- Texts of one proof, one behind the other: SP3. -/
import Derived.Test.YtblodnpfckflaakB39
/- Walks: nodesOf and Count of the yardstick. -/
namespace Go.Proofs.Ytblodnpfckflaak
open Go.RowKit Go.Sort

/-- A list of expressions in memory. -/
def ElL (w : World) (v : Value) (l : List Ex) : Prop := ∃ sl cap, v = .slice sl l.length cap ∧ l.length ≤ cap ∧ cap ≤ maxLen ∧ (l ≠ [] → ∃ b off, sl = some ⟨b, off, none⟩ ∧ ERps w b off l)
def NdE (m : Nat) : Prop := ∀ (l : List Ex) (v : Value) (most : Nat) (w0 w : World), Ex.sizes l < m → ElL w0 v l → Below w0.heap.size w0 w → most ≤ 100001 →
  Calls Try.prog 16 #[v, .int .i64 ((most : Int) - 1)] w fun e w' => NdEnd w.heap.size w (Ex.sizes l) most e w'
set_option maxRecDepth 10000 in
set_option maxHeartbeats 8000000 in
theorem nde_step (m : Nat) (ih : NdE m) : NdE (m + 1) := by
  intro l v most w0 w hm hv hb0 hmo; have HB0 : Hid (Below w0.heap.size w0 w) := hb0; obtain ⟨sl, cap, rfl, hx2, hx3, hx4⟩ := hv; have HX : Hid (l ≠ [] → ∃ b off, sl = some ⟨b, off, none⟩ ∧ ERps w0 b off l) := hx4; (have hlI : ((l.length : Nat) : Int) ≤ 9223372036854775807 := by unfold maxLen at hx3; omega); (have hcI : (l.length : Int) ≤ (cap : Int) := by omega); (have hmI : (most : Int) ≤ 100001 := by omega); have HMo : Hid (most ≤ 100001 ∧ Ex.sizes l < m + 1) := ⟨hmo, hm⟩; obtain ⟨i0, hi0, hz0, hz1, hz2⟩ := infoRn; clear hb0 hx2 hx3 hx4 hm hmo
  go_enter Try.func16, Try.ntmps16
  go_wp2_with fail
  go_loopg [6, 5] l.length (fun gg cc x wr => ∃ i n ad cp cs, i ≤ l.length ∧ gg = l.length - i ∧ cc = .int .i64 (i : Nat) ∧ x = .slice ad n cp ∧ Hid (n = min (Ex.sizes (l.take i)) most) ∧ Hid (wr.ownsRow w.heap.size 71 7 (.slice ad n cp) n cs) ∧ Hid (Ones cs) ∧ Hid (Below w.heap.size w wr))
  case atStart => exact ⟨0, 0, none, 0, [], by omega, by omega, rfl, rfl, by show 0 = _; simp [Ex.sizes], ⟨rfl, Or.inl ⟨rfl, rfl⟩⟩, (by intro u hu; simp at hu), Below.refl _ _⟩
  case round =>
    obtain ⟨i, n, ad, cp, cs, hi, hg, rfl, rfl, HN, HO, HQ, HB⟩ := hrel; have HGk : Hid (gk = l.length - i) := hg; clear hg; (have hnI : (n : Int) ≤ (most : Int) := by have := HN.out; omega); by_cases hlt : i < l.length
    · obtain ⟨⟨k2, n2, ws2, ks2⟩, hki⟩ : ∃ f, l[i]? = some f := ⟨_, List.getElem?_eq_getElem hlt⟩
      (have hlt2 : (i : Int) < (l.length : Int) := by omega)
      have hsn : Ex.sizes (l.take (i + 1)) = Ex.sizes (l.take i) + (Wd.sizes ws2 + Ex.sizes ks2 + 1) := by
        rw [take_snocG hki, esizes_app]; simp [Ex.sizes, Ex.size]
      have hst2 : Ex.sizes (l.take (i + 1)) ≤ Ex.sizes l := by
        have := esizes_app (l.take (i + 1)) (l.drop (i + 1)); rw [List.take_append_drop] at this; omega
      have HI : Hid (i < l.length) := hlt; by_cases hnm : n < most
      · obtain ⟨b, off, rfl, hrs⟩ := HX.out (fun e => by rw [e] at hlt; simp at hlt)
        obtain ⟨sw2, cw2, sk2, ck2, y0, y1, y2, y3, hr⟩ := hrs.at i k2 n2 ws2 ks2 hki; have HBw : Hid (Below w0.heap.size w0 wr) := below_join HB0.out HB.out; have x0 := (HBw.out.cell (lt_of_cell y0)).trans y0; have x1 := (HBw.out.cell (lt_of_cell y1)).trans y1; have x2 := (HBw.out.cell (lt_of_cell y2)).trans y2; have x3 := (HBw.out.cell (lt_of_cell y3)).trans y3; have HCw : Hid (w0.cell? ⟨b, off + i * 4 + 2, none⟩ = some (.slice sw2 ws2.length cw2)) := y2; have HCk : Hid (w0.cell? ⟨b, off + i * 4 + 3, none⟩ = some (.slice sk2 ks2.length ck2)) := y3; (have HN2 : Hid (n = Ex.sizes (l.take i)) := by show _ = _; have := HN.out; omega); (have HSn : Hid (Ex.sizes (l.take (i + 1)) = n + 1 + Wd.sizes ws2 + Ex.sizes ks2 ∧ n + 1 + Wd.sizes ws2 + Ex.sizes ks2 ≤ Ex.sizes l) := by have := HN2.out; exact ⟨by omega, by omega⟩); (obtain ⟨md, hmd⟩ : ∃ md : Nat, md + (n + 1) = most := ⟨most - (n + 1), by omega⟩); have HMd : Hid (md + (n + 1) = most) := hmd; have HRp : Hid (ERp w0 (.mk k2 n2 ws2 ks2) (.agg #[.int .i64 k2, .string n2, .slice sw2 ws2.length cw2, .slice sk2 ks2.length ck2])) := hr; (have HRw : Hid (∀ W, Below w0.heap.size w0 W → Calls Try.prog 30 #[.slice sw2 ws2.length cw2, .int .i64 ((md : Int) - 1)] W _) := fun W hW => ndw_all (Wd.sizes ws2 + 1) ws2 _ md w0 W (Nat.lt_succ_self _) (by obtain ⟨s0, c0, s1, c1, he, -, h, -⟩ := ERp.def.1 HRp.out; simp only [Value.agg.injEq, Array.mk.injEq, List.cons.injEq, and_true] at he; obtain ⟨-, -, e2, -⟩ := he; rw [e2]; exact h) hW (by have := HMo.out; omega)); (have hsub : (most : Int) - 1 - ((n : Int) + 1) = (md : Int) - 1 := by omega); (have hnI2 : (n : Int) ≤ (most : Int) - 1 := by omega); (have hnI3 : (n : Int) ≤ 100001 := by omega); clear hki y0 y1 y2 y3 hr hrs hlt hi hsn hst2 hmd hnm hnI
        go_wp2_with (first
          | (at_builtin
             have hown := rowM_up HO.out ((Below.refl _ wr).alloc (Nat.le_refl _) (.cells #[.int .i64 k2, .string n2, .slice sw2 ws2.length cw2, .slice sk2 ks2.length ck2, .string ⟨#[]⟩, .slice none 0 0, .bool false] 71 (0, 0))); have hbs := HB.out.size; (refine wpList_appG rfl _ _ 48 rfl w.heap.size 71 i0 (.agg #[.int .i64 0, .string ⟨#[]⟩, .slice none 0 0, .slice none 0 0, .string ⟨#[]⟩, .slice none 0 0, .bool false]) 7 120 Try.underlying48 hi0 hz0 hz1 hz2 rfl (by decide) ad n cp cs rfl hown (some ⟨wr.heap.size, 0, none⟩) 1 1 [.int .i64 k2, .string n2, .slice sw2 ws2.length cw2, .slice sk2 ks2.length ck2, .string ⟨#[]⟩, .slice none 0 0, .bool false] rfl rfl (fun _ => ⟨wr.heap.size, 0, rfl, fun j u hu => ?_⟩) ?_ (by unfold maxLen; omega) (by omega) (by simp; omega) ?_)
             · rw [Nat.zero_add, blk_cell (blk_new wr _)]
               simpa using hu
             · intro u hu
               simp at hu
               rcases hu with rfl | rfl | rfl | rfl | rfl | rfl | rfl <;> rfl
             intro ad3 cp3 w3 hown3 hk3; have HO3 : Hid (w3.ownsRow w.heap.size 71 7 (.slice ad3 (n + 1) cp3) (n + 1) (cs ++ [.int .i64 k2, .string n2, .slice sw2 ws2.length cw2, .slice sk2 ks2.length ck2, .string ⟨#[]⟩, .slice none 0 0, .bool false])) := hown3; (have HB3 : Hid (Below w.heap.size w w3) := kept_row (HB.out.alloc hbs _) (by simp; omega) hown hk3); have z2 := ((below_join HB0.out HB3.out).cell (lt_of_cell HCw.out)).trans HCw.out
             clear hown hown3 hk3 hbs x0 x1 x2 x3)
          | fail)
        refine (HRw.out w3 (below_join HB0.out HB3.out)).mono ?_; rintro _ w4 ⟨S2, ad4, cp4, ds, hS2, rfl, ho4, hq4, hb4⟩; have HS2 : Hid (S2 = min (Wd.sizes ws2) md) := hS2; have HO4 : Hid (w4.ownsRow w3.heap.size 71 7 (.slice ad4 S2 cp4) S2 ds) := ho4; have HQ4 : Hid (Ones ds) := hq4; have HB4 : Hid (Below w.heap.size w w4) := below_join HB3.out hb4; have HO5 : Hid (w4.ownsRow w.heap.size 71 7 (.slice ad3 (n + 1) cp3) (n + 1) (cs ++ [.int .i64 k2, .string n2, .slice sw2 ws2.length cw2, .slice sk2 ks2.length ck2, .string ⟨#[]⟩, .slice none 0 0, .bool false])) := rowM_up HO3.out hb4; (obtain ⟨me, hme⟩ : ∃ me : Nat, me + (n + 1 + S2) = most := ⟨most - (n + 1 + S2), by have := HMd.out; omega⟩); have HMe : Hid (me + (n + 1 + S2) = most) := hme; (have HRe : Hid (∀ W, Below w0.heap.size w0 W → Calls Try.prog 16 #[.slice sk2 ks2.length ck2, .int .i64 ((me : Int) - 1)] W _) := fun W hW => ih ks2 _ me w0 W (by have := HSn.out; have := HMo.out; omega) (by obtain ⟨s0, c0, s1, c1, he, -, -, h1, h2, h3⟩ := ERp.def.1 HRp.out; simp only [Value.agg.injEq, Array.mk.injEq, List.cons.injEq, and_true] at he; obtain ⟨-, -, -, e2⟩ := he; exact ⟨s1, c1, e2, h1, h2, h3⟩) hW (by have := HMo.out; omega)); (have hsub2 : (most : Int) - 1 - ((n : Int) + 1 + (S2 : Int)) = (me : Int) - 1 := by omega); (have hS2I : (S2 : Int) ≤ 100001 := by omega); clear ho4 hq4 hb4 z2 hS2 hme
        go_wp2_with (first
          | (at_builtin
             have hbs := HB4.out.size; have hso := HS2.out; have hmd := HMd.out; (refine wpList_appG rfl _ _ 48 rfl w.heap.size 71 i0 (.agg #[.int .i64 0, .string ⟨#[]⟩, .slice none 0 0, .slice none 0 0, .string ⟨#[]⟩, .slice none 0 0, .bool false]) 7 120 Try.underlying48 hi0 hz0 hz1 hz2 rfl (by decide) ad3 (n + 1) cp3 _ rfl HO5.out ad4 S2 cp4 ds rfl HO4.out.1 (fun hpos => ?_) HQ4.out (by unfold maxLen; omega) (by omega) hbs ?_)
             · obtain ⟨g, rfl, hc⟩ := rowM_cells HO4.out hpos
               exact ⟨g, 0, rfl, hc⟩
             intro ad5 cp5 w5 hown5 hk5; have HO6 : Hid (w5.ownsRow w.heap.size 71 7 (.slice ad5 (n + 1 + S2) cp5) (n + 1 + S2) ((cs ++ [.int .i64 k2, .string n2, .slice sw2 ws2.length cw2, .slice sk2 ks2.length ck2, .string ⟨#[]⟩, .slice none 0 0, .bool false]) ++ ds)) := hown5; have HB6 : Hid (Below w.heap.size w w5) := kept_row HB4.out hbs HO5.out hk5; have z3 := ((below_join HB0.out HB6.out).cell (lt_of_cell HCk.out)).trans HCk.out
             clear hown5 hk5 hbs hso hmd)
          | fail)
        refine (HRe.out w5 (below_join HB0.out HB6.out)).mono ?_; rintro _ w6 ⟨S3, ad6, cp6, dt, hS3, rfl, ho6, hq6, hb6⟩; have HS3 : Hid (S3 = min (Ex.sizes ks2) me) := hS3; have HO7 : Hid (w6.ownsRow w5.heap.size 71 7 (.slice ad6 S3 cp6) S3 dt) := ho6; have HQ6 : Hid (Ones dt) := hq6; have HB7 : Hid (Below w.heap.size w w6) := below_join HB6.out hb6; have HO8 : Hid (w6.ownsRow w.heap.size 71 7 (.slice ad5 (n + 1 + S2) cp5) (n + 1 + S2) ((cs ++ [.int .i64 k2, .string n2, .slice sw2 ws2.length cw2, .slice sk2 ks2.length ck2, .string ⟨#[]⟩, .slice none 0 0, .bool false]) ++ ds)) := rowM_up HO6.out hb6; clear ho6 hq6 hb6 z3 hS3
        go_wp2_with (first
          | (at_builtin
             have hbs := HB7.out.size; have hso := HS3.out; have hme := HMe.out; (refine wpList_appG rfl _ _ 48 rfl w.heap.size 71 i0 (.agg #[.int .i64 0, .string ⟨#[]⟩, .slice none 0 0, .slice none 0 0, .string ⟨#[]⟩, .slice none 0 0, .bool false]) 7 120 Try.underlying48 hi0 hz0 hz1 hz2 rfl (by decide) ad5 (n + 1 + S2) cp5 _ rfl HO8.out ad6 S3 cp6 dt rfl HO7.out.1 (fun hpos => ?_) HQ6.out (by unfold maxLen; omega) (by omega) hbs ?_)
             · obtain ⟨g, rfl, hc⟩ := rowM_cells HO7.out hpos
               exact ⟨g, 0, rfl, hc⟩
             intro ad7 cp7 w7 hown7 hk7; have HO9 : Hid (w7.ownsRow w.heap.size 71 7 (.slice ad7 (n + 1 + S2 + S3) cp7) (n + 1 + S2 + S3) (((cs ++ [.int .i64 k2, .string n2, .slice sw2 ws2.length cw2, .slice sk2 ks2.length ck2, .string ⟨#[]⟩, .slice none 0 0, .bool false]) ++ ds) ++ dt)) := hown7; have HB9 : Hid (Below w.heap.size w w7) := kept_row HB7.out hbs HO8.out hk7
             clear hown7 hk7 hbs hso hme)
          | fail)
        go_roundg (l.length - (i + 1))
        case measure => have := HGk.out; have := HI.out; omega
        case rel =>
          (refine ⟨i + 1, n + 1 + S2 + S3, ad7, cp7, ((cs ++ [.int .i64 k2, .string n2, .slice sw2 ws2.length cw2, .slice sk2 ks2.length ck2, .string ⟨#[]⟩, .slice none 0 0, .bool false]) ++ ds) ++ dt, HI.out, rfl, by go_num, rfl, ?_, HO9, ?_, HB9⟩)
          · show _ = _
            have := HSn.out; have := HS2.out; have := HMd.out; have := HS3.out; have := HMe.out; omega
          · refine ((HQ.out.app ?_).app HQ4.out).app HQ6.out
            intro u hu; simp at hu
            rcases hu with rfl | rfl | rfl | rfl | rfl | rfl | rfl <;> rfl
      · have hnI2 : ¬ (n : Int) ≤ (most : Int) - 1 := by omega
        (have HE : Hid (n = min (Ex.sizes l) most) := by show _ = _; have := HN.out; omega); clear hki hlt hi hsn hst2 hnm hnI; go_wp2_with fail; go_ret; exact ⟨n, ad, cp, cs, HE.out, rfl, HO.out, HQ.out, HB.out⟩
    · have hii : l.length = i := by omega
      subst hii; (have hge : ¬ (l.length : Int) < (l.length : Int) := by omega); clear hlt hi hnI; go_wp2_with fail; go_ret; have h1 := HN.out; rw [List.take_length] at h1; exact ⟨n, ad, cp, cs, h1, rfl, HO.out, HQ.out, HB.out⟩
theorem nde_all : ∀ m, NdE m
  | 0 => fun _ _ _ _ _ h => absurd h (Nat.not_lt_zero _)
  | m + 1 => nde_step m (nde_all m)
set_option maxRecDepth 10000 in
set_option maxHeartbeats 4000000 in
theorem count_any (x : Ex) (v : Value) (w : World) (h : ERp w x v) :
    Calls Try.prog 7 #[v] w fun e w' => ∃ n : Nat, Hid (n = min x.size 100001) ∧ e = .returned (.int .i64 n) ∧ Below w.heap.size w w' := by
  have HE : Hid (ERp w x v) := h; obtain ⟨k, n, ws, ks⟩ := x; obtain ⟨sw, cw, sk, ck, rfl, -⟩ := ERp.def.1 h; obtain ⟨W, hWe⟩ : ∃ W, (w.alloc (.cells #[.int .i64 k, .string n, .slice sw ws.length cw, .slice sk ks.length ck] 29 (0, 0))).alloc (.cells #[.int .i64 k, .string n, .slice sw ws.length cw, .slice sk ks.length ck] 29 (0, 0)) = W := ⟨_, rfl⟩; have hB1 : Below w.heap.size w (w.alloc (.cells #[.int .i64 k, .string n, .slice sw ws.length cw, .slice sk ks.length ck] 29 (0, 0))) := below_more (Below.refl _ _) _; (have hBW : Below w.heap.size w W := by rw [← hWe]; exact hB1.alloc (by simp) _); (have hsz : W.heap.size = w.heap.size + 2 := by rw [← hWe]; simp)
  have hq : W.heap[w.heap.size + 1]? = some (.cells #[.int .i64 k, .string n, .slice sw ws.length cw, .slice sk ks.length ck] 29 (0, 0)) := by
    rw [← hWe]; have := blk_new (w.alloc (.cells #[.int .i64 k, .string n, .slice sw ws.length cw, .slice sk ks.length ck] 29 (0, 0))) (.cells #[.int .i64 k, .string n, .slice sw ws.length cw, .slice sk ks.length ck] 29 (0, 0)); simpa using this
  have HBW : Hid (Below w.heap.size w W) := hBW; obtain ⟨a0, a1, a2, a3⟩ := blk4L hq; (have hel : ElL W (.slice (some ⟨w.heap.size + 1, 0, none⟩) 1 1) [.mk k n ws ks] := ⟨_, _, rfl, Nat.le_refl _, by unfold maxLen; omega, fun _ => ⟨_, _, rfl, ERps.cons.2 ⟨⟨_, _, _, _, a0, a1, a2, a3, ERp.up hBW _ _ HE.out⟩, ERps.nil⟩⟩⟩); (have HC : Hid (Calls Try.prog 16 #[.slice (some ⟨w.heap.size + 1, 0, none⟩) 1 1, .int .i64 100000] W fun e w' => NdEnd W.heap.size W (Ex.sizes [.mk k n ws ks]) 100001 e w') := nde_all _ [.mk k n ws ks] _ 100001 W W (Nat.lt_succ_self _) hel (Below.refl _ _) (Nat.le_refl _)); clear h hel hq a0 a1 a2 a3 hBW hB1 hsz
  go_enter Try.func7, Try.ntmps7
  go_wp2_with (first
    | (go_at_call 16
       refine HC.out.mono ?_; rintro _ w4 ⟨S2, ad4, cp4, ds, hS2, rfl, ho4, hq4, hb4⟩
       have HS2 : Hid (S2 = min (Ex.mk k n ws ks).size 100001) := by
         show _ = _; rw [Ex.sizes, Ex.sizes, Nat.add_zero] at hS2; exact hS2
       have HB4 : Hid (Below w.heap.size w w4) := below_join HBW.out hb4
       clear hS2 ho4 hq4 hb4)
    | fail)
  go_ret; exact ⟨S2, HS2, rfl, HB4.out⟩
end Go.Proofs.Ytblodnpfckflaak
