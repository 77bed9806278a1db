/- Texts of one proof, one behind the other: MLH. -/
import Derived.Test.YtmahgfgndfcmpagB25
/- Walks: worlds chosen for a model (modlog.finder.filled). -/
namespace Go.Proofs.Ytmahgfgndfcmpag
open Go.RowKit Go.Sort

/-- What filled leaves: more worlds of l, none twice, and what h wants is shown as far as l shows it. -/
structure Fild (ps : List PartM) (S : Nat → Nat → Bool) (sm : Bool) (l ch ch' : List Nat) (h : Nat) : Prop where
  more : ∃ ext, ch' = ch ++ ext ∧ (∀ x ∈ ext, x ∈ l)
  once : ch.Nodup → ch'.Nodup
  shown : ∀ v ∈ l, S h v = true → ∀ n, n < ps.length → swB ps v n = true → ∃ u ∈ ch', S h u = true ∧ swB ps u n = true
  some' : sm = true → (∃ v ∈ l, S h v = true) → ∃ u ∈ ch', S h u = true
theorem grown_blk {V w3 : World} {o x : Obj} {own : Option Nat} {b : Nat} (hg : (V.alloc o).grownBy w3 own) (hb : V.heap[b]? = some x) (hne : own ≠ some b) : w3.heap[b]? = some x := (hg.block b (by have := lt_of_block hb; simp; omega) fun e => hne e.symm).trans (alloc_keep hb _)
theorem grown_own {ad : Option Addr} {n cp g3 H k m cp3 : Nat} {X : Nat} (hat : (Value.slice ad n cp).ownBlock = some g3 ∨ g3 = H) (h1 : ∀ k, (Value.slice ad n cp).ownBlock = some k → k ≠ X) (h2 : X < H) (hk : (Value.slice (some ⟨g3, 0, none⟩) m cp3).ownBlock = some k) : k ≠ X := by
  (have ek : g3 = k := by simpa [Value.ownBlock] using hk)
  rcases hat with h9 | h9
  · rw [← ek]; exact h1 _ h9
  · omega
def shF (ps : List PartM) (S : Nat → Nat → Bool) (ch : List Nat) (h n : Nat) : Bool := ch.any fun x => S h x && swB ps x n
theorem fild_no {ps : List PartM} {S : Nat → Nat → Bool} {sm : Bool} {l : List Nat} {ch ch' : List Nat} {h i y : Nat} (hf : Fild ps S sm (l.take i) ch ch' h) (hy : l[i]? = some y) (hn : S h y = true → subB ps.length (swB ps y) (shF ps S ch' h) = true ∧ (sm = true → ch'.any (S h) = true)) : Fild ps S sm (l.take (i + 1)) ch ch' h := by
  rw [sees_snoc hy]; (refine ⟨?_, hf.once, fun v hv hs n hnl hsw => ?_, fun hsm ⟨v, hv, hs⟩ => ?_⟩)
  · obtain ⟨ext, e, he⟩ := hf.more
    (exact ⟨ext, e, fun x hx => List.mem_append_left _ (he x hx)⟩)
  · rcases List.mem_append.1 hv with hv | hv
    · exact hf.shown v hv hs n hnl hsw
    · simp at hv
      subst hv; have := sub_iff.1 (hn hs).1 n hnl hsw; unfold shF at this; rw [List.any_eq_true] at this; obtain ⟨u, hu, h2⟩ := this; exact ⟨u, hu, Bool.and_eq_true_iff.1 h2⟩
  · rcases List.mem_append.1 hv with hv | hv
    · exact hf.some' hsm ⟨v, hv, hs⟩
    · simp at hv
      subst hv; have := (hn hs).2 hsm; rw [List.any_eq_true] at this; exact this
theorem fild_yes {ps : List PartM} {S : Nat → Nat → Bool} {sm : Bool} {l : List Nat} {ch ch' : List Nat} {h i y : Nat} (hf : Fild ps S sm (l.take i) ch ch' h) (hy : l[i]? = some y) (hs9 : S h y = true) (hn : subB ps.length (swB ps y) (shF ps S ch' h) = false ∨ (sm = true ∧ ch'.any (S h) = false)) : Fild ps S sm (l.take (i + 1)) ch (ch' ++ [y]) h := by
  rw [sees_snoc hy]
  have hnew : y ∉ ch' := fun hm => by
    rcases hn with h1 | ⟨-, h1⟩
    · have : subB ps.length (swB ps y) (shF ps S ch' h) = true := sub_iff.2 fun n hnl hsw => by
        unfold shF; (exact List.any_eq_true.2 ⟨y, hm, by rw [hs9, hsw]; rfl⟩)
      rw [this] at h1; cases h1
    · have : ch'.any (S h) = true := List.any_eq_true.2 ⟨y, hm, hs9⟩
      rw [this] at h1; cases h1
  (refine ⟨?_, fun hd => ?_, fun v hv hs n hnl hsw => ?_, fun hsm _ => ⟨y, by simp, hs9⟩⟩)
  · obtain ⟨ext, e, he⟩ := hf.more
    (refine ⟨ext ++ [y], by rw [e, List.append_assoc], fun x hx => ?_⟩)
    rcases List.mem_append.1 hx with hx | hx
    · exact List.mem_append_left _ (he x hx)
    · exact List.mem_append_right _ hx
  · rw [List.nodup_append]
    (refine ⟨hf.once hd, by simp, fun a ha b hb e => ?_⟩); simp at hb; subst hb; exact hnew (e ▸ ha)
  · rcases List.mem_append.1 hv with hv | hv
    · obtain ⟨u, hu, h2⟩ := hf.shown v hv hs n hnl hsw
      exact ⟨u, List.mem_append_left _ hu, h2⟩
    · simp at hv
      subst hv; (exact ⟨v, by simp, hs, hsw⟩)
theorem rowH11 (l : List Value) (h0 : l.length = 11) : ∃ x0 x1 x2 x3 x4 x5 x6 x7 x8 x9 x10, l = [x0, x1, x2, x3, x4, x5, x6, x7, x8, x9, x10] := by
  obtain ⟨x0, l1, e0, h1⟩ := cons_lenM h0; obtain ⟨x1, l2, e1, h2⟩ := cons_lenM h1; obtain ⟨x2, l3, e2, h3⟩ := cons_lenM h2; obtain ⟨x3, l4, e3, h4⟩ := cons_lenM h3; obtain ⟨x4, l5, e4, h5⟩ := cons_lenM h4; obtain ⟨x5, l6, e5, h6⟩ := cons_lenM h5; obtain ⟨x6, l7, e6, h7⟩ := cons_lenM h6; obtain ⟨x7, l8, e7, h8⟩ := cons_lenM h7; obtain ⟨x8, l9, e8, h9⟩ := cons_lenM h8; obtain ⟨x9, l10, e9, h10⟩ := cons_lenM h9; obtain ⟨x10, l11, e10, h11⟩ := cons_lenM h10; have e11 : l11 = [] := List.length_eq_zero_iff.1 h11; subst e11 e10 e9 e8 e7 e6 e5 e4 e3 e2 e1 e0; exact ⟨x0, x1, x2, x3, x4, x5, x6, x7, x8, x9, x10, rfl⟩
set_option maxRecDepth 10000 in
set_option maxHeartbeats 8000000 in
theorem filled_any {ps : List PartM} (hL : ps.length ≤ 40) {fn : Nat} {cap : Array Value} {S : List PartM → Nat → Nat → Bool} {M : Nat → Prop} {Ok : World → Prop} (A : AskW fn cap S M Ok) (bF bt : Nat) (its sm : Bool) (ad9 : Option Addr) (cp9 : Nat) (l : List Nat) (hl : l.length ≤ 1024) (W0 : World) (hF : FdAt W0 bF bt fn cap its sm ad9 l.length cp9) (hok : Ok W0) (hv : WL ps W0 (.slice ad9 l.length cp9) l) (h : Nat) (ch : List Nat) (hch : ch.length ≤ 10000) (ad : Option Addr) (cp : Nat) (w : World) (hB0 : Below W0.heap.size W0 w) (hrow : w.ownsRow W0.heap.size 104 3 (.slice ad ch.length cp) ch.length (encW ps ch)) :
    Calls Try.prog 95 #[.pointer (some ⟨bF, 0, none⟩), .slice ad ch.length cp, WV ps h] w fun e w' => ∃ ch' ad cp, e = .returned (.slice ad ch'.length cp) ∧ w'.ownsRow W0.heap.size 104 3 (.slice ad ch'.length cp) ch'.length (encW ps ch') ∧ Fild ps (S ps) sm l ch ch' h ∧ Below W0.heap.size W0 w' := by
  (have HSe : Hid (∀ w', Below W0.heap.size W0 w' → w'.ownsRow W0.heap.size 104 3 (.slice ad ch.length cp) ch.length (encW ps ch) → Calls Try.prog 114 #[.pointer (some ⟨bF, 0, none⟩), WV ps h, .slice ad ch.length cp] w' _) := fun w' hb hr => seenW_any hL A bF bt its sm ad9 l.length cp9 h ch (by omega) _ w' (below_keep hb hF) (A.below hok hb) (WL.own hr)); (have HA : Hid (∀ (x : Nat) (w : World), Below W0.heap.size W0 w → Calls Try.prog fn (#[WV ps h, WV ps x] ++ cap) w fun e w' => e = .returned (.bool (S ps h x)) ∧ Below w.heap.size w w') := fun x w hb => A.call ps h x w hL (A.below hok hb)); (have HWi : Hid (∀ (P Q : Nat → Bool) (w : World), Calls Try.prog 60 #[.int .u64 (bm ps.length P : Nat), .int .u64 (bm ps.length Q : Nat)] w fun e w' => e = .returned (.bool (subB ps.length P Q)) ∧ w' = w) := fun P Q w => set_within hL P Q w); have hcf := A.ent; have HF : Hid (W0.heap[bF]? = some (.cells #[.pointer (some ⟨bt, 0, none⟩), .func (.func fn) #[] cap, .bool its, .bool sm, .slice ad9 l.length cp9] 140 (0, 0))) := hF; have HL : Hid (ps.length ≤ 40) := hL; obtain ⟨ad0, cp0, e0, h1, h2, h3⟩ := hv; simp only [Value.slice.injEq, true_and] at e0; obtain ⟨rfl, rfl⟩ := e0; have HV : Hid (l ≠ [] → ∃ g, ad9 = some ⟨g, 0, none⟩ ∧ ∀ (j x : Nat), l[j]? = some x → W0.cell? ⟨g, j * 3, none⟩ = some (.int .u64 (x : Nat)) ∧ W0.cell? ⟨g, j * 3 + 1, none⟩ = some (.int .u64 (bm ps.length (wnB ps x) : Nat)) ∧ W0.cell? ⟨g, j * 3 + 2, none⟩ = some (.int .u64 (bm ps.length (swB ps x) : Nat))) := h3; (have hlI : (l.length : Int) ≤ 1024 := by omega); (have hcI : (l.length : Int) ≤ (cp9 : Int) := by omega); have HLl : Hid (l.length ≤ 1024 ∧ ch.length ≤ 10000) := ⟨hl, hch⟩; (have HSF : Hid (∀ n, (ch.any fun x => S ps h x && swB ps x n) = shF ps (S ps) ch h n) := fun n => rfl); unfold WV at HA HSe ⊢; obtain ⟨hw, hhw⟩ : ∃ x, x = bm ps.length (wnB ps h) := ⟨_, rfl⟩; obtain ⟨hs, hhs⟩ : ∃ x, x = bm ps.length (swB ps h) := ⟨_, rfl⟩; rw [← hhw, ← hhs] at HA HSe ⊢; obtain ⟨X, hX⟩ : ∃ W, W = w.alloc (.cells #[.int .u64 (h : Nat), .int .u64 (hw : Nat), .int .u64 (hs : Nat)] 104 (0, 0)) := ⟨_, rfl⟩; (have hbX : Below w.heap.size w X := by rw [hX]; exact below_more (Below.refl _ _) _); have HBX : Hid (Below W0.heap.size W0 X) := below_join hB0 hbX; (have HXh : Hid (X.heap[w.heap.size]? = some (.cells #[.int .u64 (h : Nat), .int .u64 (hw : Nat), .int .u64 (hs : Nat)] 104 (0, 0))) := by rw [hX]; exact blk_new _ _); have HXr : Hid (X.ownsRow W0.heap.size 104 3 (.slice ad ch.length cp) ch.length (encW ps ch)) := rowM_up hrow hbX; have HSz : Hid (W0.heap.size ≤ w.heap.size) := hB0.size; (have HOb : Hid (∀ k, (Value.slice ad ch.length cp).ownBlock = some k → k ≠ w.heap.size) := fun k hk => by have := (hrow.lt k hk).2; omega); obtain ⟨f0, f1, f2, -⟩ := blk3 HXh.out; have hXe := hX.symm; clear hhw hhs h1 h2 h3 hF hok A hL hl hch hB0 hrow hX hbX
  go_enter Try.func95, Try.ntmps95
  go_wp2_with fail
  try rw [hXe]
  refine (HSe.out X HBX.out HXr.out).mono ?_; rintro _ w1 ⟨rfl, hb1⟩; have HB1 : Hid (Below W0.heap.size W0 w1) := below_join HBX.out hb1; have H1h : Hid (w1.heap[w.heap.size]? = some (.cells #[.int .u64 (h : Nat), .int .u64 (hw : Nat), .int .u64 (hs : Nat)] 104 (0, 0))) := below_keep hb1 HXh.out; have H1r : Hid (w1.ownsRow W0.heap.size 104 3 (.slice ad ch.length cp) ch.length (encW ps ch)) := rowM_up HXr.out hb1; obtain ⟨F0, F1, F2, F3, F4, -⟩ := blkF (below_keep HB1.out HF.out); clear hb1 hXe f0 f1 f2 HSe HXh HXr HBX; (obtain ⟨x0, hx0⟩ : ∃ x, x = bm ps.length (fun n => ch.any fun x => S ps h x && swB ps x n) := ⟨_, rfl⟩); rw [← hx0]; have HX0 : Hid (x0 = bm ps.length (shF ps (S ps) ch h)) := hx0; clear hx0; go_wp2_with fail; clear F0 F1 F2 F3 F4
  go_loopg [24, 1, 7, 8, 10, 11] l.length (fun gg cc c1 s z p9 q9 wr => ∃ i x ch' ad cp, i ≤ l.length ∧ gg = l.length - i ∧ cc = .int .i64 (i : Nat) ∧ c1 = .slice ad ch'.length cp ∧ s = .int .u64 (x : Nat) ∧ z = .bool (ch'.any (S ps h)) ∧ Hid (x = bm ps.length (shF ps (S ps) ch' h)) ∧ Hid (ch'.length ≤ ch.length + i) ∧ Hid (Fild ps (S ps) sm (l.take i) ch ch' h) ∧ Hid (wr.ownsRow W0.heap.size 104 3 (.slice ad ch'.length cp) ch'.length (encW ps ch')) ∧ Hid (∀ k, (Value.slice ad ch'.length cp).ownBlock = some k → k ≠ w.heap.size) ∧ Hid (wr.heap[w.heap.size]? = some (.cells #[.int .u64 (h : Nat), .int .u64 (hw : Nat), .int .u64 (hs : Nat)] 104 (0, 0))) ∧ Hid (Below W0.heap.size W0 wr))
  case atStart => exact ⟨0, x0, ch, ad, cp, by omega, by omega, rfl, rfl, rfl, rfl, HX0, Nat.le_refl _, ⟨⟨[], by simp, fun x hx => by cases hx⟩, id, fun v hv => by simp at hv, fun _ ⟨v, hv, _⟩ => by simp at hv⟩, H1r, HOb, H1h, HB1⟩
  case round =>
    obtain ⟨i, x, ch', ad, cp, hi, hg, rfl, rfl, rfl, rfl, HX, HCl, HFi, HRo, HOb9, HH, HB⟩ := hrel; (have HOy : Hid (∀ k, (Value.slice ad ch'.length cp).ownBlock = some k → k < wr.heap.size) := fun k hk => (HRo.out.lt k hk).2); have HGk : Hid (gk = l.length - i) := hg; clear hg; by_cases hlt : i < l.length
    case neg =>
      (have hii : i = l.length := by omega); have hge : decide (i < l.length) = false := decide_eq_false hlt; rw [hii, List.take_length] at HFi; clear hlt hi hii; go_wp2_with fail; go_ret; exact ⟨ch', ad, cp, rfl, HRo.out, HFi.out, HB.out⟩
    (have hltI : (i : Int) < (l.length : Int) := by omega); (have hltc : (i : Int) < (cp9 : Int) := by omega); have HI : Hid (i < l.length) := hlt; obtain ⟨y, hy⟩ : ∃ y, l[i]? = some y := ⟨_, List.getElem?_eq_getElem hlt⟩; have HY : Hid (l[i]? = some y) := hy; (obtain ⟨g, hgad, hgc⟩ := HV.out (fun e => by rw [e] at hlt; simp at hlt)); subst hgad; obtain ⟨g0, g1, g2⟩ := hgc i y hy; have k0 := (HB.out.cell (lt_of_cell g0)).trans g0; have k1 := (HB.out.cell (lt_of_cell g1)).trans g1; have k2 := (HB.out.cell (lt_of_cell g2)).trans g2; (have HC : Hid (∀ w', Below W0.heap.size W0 w' → Calls Try.prog fn (#[.agg #[.int .u64 (h : Nat), .int .u64 (hw : Nat), .int .u64 (hs : Nat)], .agg #[.int .u64 (y : Nat), .int .u64 (bm ps.length (wnB ps y) : Nat), .int .u64 (bm ps.length (swB ps y) : Nat)]] ++ cap) w' _) := fun w' hb => HA.out y w' hb); (have HWy : Hid (∀ w, Calls Try.prog 60 #[.int .u64 (bm ps.length (swB ps y) : Nat), .int .u64 (x : Nat)] w fun e w' => e = .returned (.bool (subB ps.length (swB ps y) (shF ps (S ps) ch' h))) ∧ w' = w) := fun w => by rw [HX.out]; exact HWi.out _ _ w); obtain ⟨yw, hyw⟩ : ∃ x, x = bm ps.length (wnB ps y) := ⟨_, rfl⟩; obtain ⟨ys, hys⟩ : ∃ x, x = bm ps.length (swB ps y) := ⟨_, rfl⟩; rw [← hyw] at k1 HC; rw [← hys] at k2 HC HWy; (have HEn : Hid (encW ps ch' ++ [.int .u64 (y : Nat), .int .u64 (yw : Nat), .int .u64 (ys : Nat)] = encW ps (ch' ++ [y])) := by show _ = _; rw [hyw, hys, encW_app]; rfl); have HYs : Hid (ys = bm ps.length (swB ps y)) := hys; (have HNo : Hid ((S ps h y = true → subB ps.length (swB ps y) (shF ps (S ps) ch' h) = true ∧ (sm = true → ch'.any (S ps h) = true)) → Fild ps (S ps) sm (l.take (i + 1)) ch ch' h) := fun hn => fild_no HFi.out hy hn); (have HYe : Hid (S ps h y = true → (subB ps.length (swB ps y) (shF ps (S ps) ch' h) = false ∨ (sm = true ∧ ch'.any (S ps h) = false)) → Fild ps (S ps) sm (l.take (i + 1)) ch (ch' ++ [y]) h) := fun h1 h2 => fild_yes HFi.out hy h1 h2); obtain ⟨r, hr⟩ : ∃ r, r = S ps h y := ⟨_, rfl⟩; rw [← hr] at HC HNo HYe; have HRr : Hid (r = S ps h y) := hr; (have HAn : Hid (∀ y', (ch' ++ [y']).any (S ps h) = (ch'.any (S ps h) || S ps h y')) := fun y' => by rw [List.any_append]; simp); generalize subB ps.length (swB ps y) (shF ps (S ps) ch' h) = sb at *; generalize hse : ch'.any (S ps h) = se at *; clear hlt hi hgc g0 g1 g2 hyw hys hr hy; (have hchI : (ch'.length : Int) ≤ 20000 := by have := HCl.out; have := HLl.out; have := HI.out; omega); obtain ⟨Y, hY⟩ : ∃ X, X = wr.alloc (.cells #[.int .u64 (y : Nat), .int .u64 (yw : Nat), .int .u64 (ys : Nat)] 104 (0, 0)) := ⟨_, rfl⟩; (have hbY : Below wr.heap.size wr Y := by rw [hY]; exact below_more (Below.refl _ _) _); have HBY : Hid (Below W0.heap.size W0 Y) := below_join HB.out hbY; have HYh : Hid (Y.heap[w.heap.size]? = some (.cells #[.int .u64 (h : Nat), .int .u64 (hw : Nat), .int .u64 (hs : Nat)] 104 (0, 0))) := below_keep hbY HH.out; (have HYy : Hid (Y.heap[wr.heap.size]? = some (.cells #[.int .u64 (y : Nat), .int .u64 (yw : Nat), .int .u64 (ys : Nat)] 104 (0, 0))) := by rw [hY]; exact blk_new _ _); have HYr : Hid (Y.ownsRow W0.heap.size 104 3 (.slice ad ch'.length cp) ch'.length (encW ps ch')) := rowM_up HRo.out hbY; obtain ⟨F0, F1, F2, F3, F4, -⟩ := blkF (below_keep HBY.out HF.out); obtain ⟨z0, z1, z2, -⟩ := blk3 HYy.out; have hYe := hY.symm; clear hbY hY; go_wp2_with fail
    try rw [hYe]
    clear hYe k0 k1 k2; refine (HWy.out _).mono ?_; rintro _ w9 ⟨rfl, e9⟩
    replace e9 := e9.symm
    subst e9; obtain ⟨nd, hnd⟩ : ∃ nd, nd = (!sb || (sm && !se)) := ⟨_, rfl⟩; have HNd : Hid (nd = (!sb || (sm && !se))) := hnd
    have hcase : (sb = false ∧ nd = true) ∨ (sb = true ∧ sm = false ∧ nd = false) ∨ (sb = true ∧ sm = true ∧ nd = !se) := by
      rw [hnd]
      cases sb <;> cases sm <;> simp
    clear hnd
    rcases hcase with ⟨rfl, rfl⟩ | ⟨rfl, rfl, rfl⟩ | ⟨rfl, rfl, rfl⟩
    · go_wp2_with fail
      (refine wp_region_free (by kernel_rfl) [fun v _ => v = (.bool true), fun v _ => v = (.bool true), fun v _ => v = (.pointer (some ⟨bF, 0, none⟩)), fun v _ => v = (.pointer (some ⟨bF, 0, none⟩)), fun v _ => v = (.pointer (some ⟨bF, 1, none⟩)), fun v _ => v = (.pointer (some ⟨bF, 1, none⟩)), fun v _ => v = (.func (.func fn) #[] cap), fun v _ => v = (.agg #[.int .u64 (h : Nat), .int .u64 (hw : Nat), .int .u64 (hs : Nat)]), fun v _ => v = (.agg #[.int .u64 (y : Nat), .int .u64 (yw : Nat), .int .u64 (ys : Nat)]), fun v _ => v = (.bool r), fun v _ => v = (.bool r)] ?_ (by kernel_rfl) (by kernel_rfl) 65 rfl (by kernel_rfl) ?_ ?_)
      · intro p hp
        simp only [List.mem_cons, List.not_mem_nil, or_false] at hp
        rcases hp with rfl | rfl | rfl | rfl | rfl | rfl | rfl | rfl | rfl | rfl | rfl
        · exact fun _ _ _ h _ => h
        · exact fun _ _ _ h _ => h
        · exact fun _ _ _ h _ => h
        · exact fun _ _ _ h _ => h
        · exact fun _ _ _ h _ => h
        · exact fun _ _ _ h _ => h
        · exact fun _ _ _ h _ => h
        · exact fun _ _ _ h _ => h
        · exact fun _ _ _ h _ => h
        · exact fun _ _ _ h _ => h
        · exact fun _ _ _ h _ => h
      · refine ⟨?_, ?_, ?_, ?_, ?_, ?_, ?_, ?_, ?_, ?_, ?_, trivial⟩
        · intro a wx hB hold hdep K hK
          have t11 : a.tmps[11]? = some (.bool true) := hold.2.2 11 rfl; clear hold hdep; go_simp; exact hK.out _ _ rfl (Below.refl _ _)
        · intro a wx hB hold hdep K hK
          obtain ⟨v44, t44, p44⟩ := hdep 0 rfl _ 44 rfl rfl; have e44 : v44 = (.bool true) := p44; subst e44; clear hold hdep; go_simp; exact hK.out _ _ rfl (Below.refl _ _)
        · intro a wx hB hold hdep K hK
          obtain ⟨v45, t45, p45⟩ := hdep 1 rfl _ 45 rfl rfl; have e45 : v45 = (.bool true) := p45; subst e45; have t0 : a.tmps[0]? = some (.pointer (some ⟨bF, 0, none⟩)) := hold.2.2 0 rfl; clear hold hdep; go_simp; exact hK.out _ _ rfl (Below.refl _ _)
        · intro a wx hB hold hdep K hK
          obtain ⟨v45, t45, p45⟩ := hdep 1 rfl _ 45 rfl rfl; have e45 : v45 = (.bool true) := p45; subst e45; obtain ⟨v46, t46, p46⟩ := hdep 2 rfl _ 46 rfl rfl; have e46 : v46 = (.pointer (some ⟨bF, 0, none⟩)) := p46; subst e46; clear hold hdep; go_simp; exact hK.out _ _ rfl (Below.refl _ _)
        · intro a wx hB hold hdep K hK
          obtain ⟨v45, t45, p45⟩ := hdep 1 rfl _ 45 rfl rfl; have e45 : v45 = (.bool true) := p45; subst e45; obtain ⟨v47, t47, p47⟩ := hdep 3 rfl _ 47 rfl rfl; have e47 : v47 = (.pointer (some ⟨bF, 0, none⟩)) := p47; subst e47; clear hold hdep; go_simp; exact hK.out _ _ rfl (Below.refl _ _)
        · intro a wx hB hold hdep K hK
          obtain ⟨v45, t45, p45⟩ := hdep 1 rfl _ 45 rfl rfl; have e45 : v45 = (.bool true) := p45; subst e45; obtain ⟨v48, t48, p48⟩ := hdep 4 rfl _ 48 rfl rfl; have e48 : v48 = (.pointer (some ⟨bF, 1, none⟩)) := p48; subst e48; clear hold hdep; go_simp; exact hK.out _ _ rfl (Below.refl _ _)
        · intro a wx hB hold hdep K hK
          obtain ⟨v45, t45, p45⟩ := hdep 1 rfl _ 45 rfl rfl; have e45 : v45 = (.bool true) := p45; subst e45; obtain ⟨v49, t49, p49⟩ := hdep 5 rfl _ 49 rfl rfl; have e49 : v49 = (.pointer (some ⟨bF, 1, none⟩)) := p49; subst e49; obtain ⟨q0, q1, q2, q3, q4, -⟩ := blkF (below_keep hB (below_keep HBY.out HF.out)); clear hold hdep; go_simp; exact hK.out _ _ rfl (Below.refl _ _)
        · intro a wx hB hold hdep K hK
          obtain ⟨v45, t45, p45⟩ := hdep 1 rfl _ 45 rfl rfl; have e45 : v45 = (.bool true) := p45; subst e45; have t5 : a.tmps[5]? = some (.pointer (some ⟨w.heap.size, 0, none⟩)) := hold.2.2 5 rfl; obtain ⟨q0, q1, q2, -⟩ := blk3 (below_keep hB HYh.out); clear hold hdep; go_simp; exact hK.out _ _ rfl (Below.refl _ _)
        · intro a wx hB hold hdep K hK
          obtain ⟨v45, t45, p45⟩ := hdep 1 rfl _ 45 rfl rfl; have e45 : v45 = (.bool true) := p45; subst e45; have t10 : a.tmps[10]? = some (.pointer (some ⟨wr.heap.size, 0, none⟩)) := hold.2.2 10 rfl; obtain ⟨q0, q1, q2, -⟩ := blk3 (below_keep hB HYy.out); clear hold hdep; go_simp; exact hK.out _ _ rfl (Below.refl _ _)
        · intro a wx hB hold hdep K hK
          obtain ⟨v45, t45, p45⟩ := hdep 1 rfl _ 45 rfl rfl; have e45 : v45 = (.bool true) := p45; subst e45; obtain ⟨v50, t50, p50⟩ := hdep 6 rfl _ 50 rfl rfl; have e50 : v50 = (.func (.func fn) #[] cap) := p50; subst e50; obtain ⟨v51, t51, p51⟩ := hdep 7 rfl _ 51 rfl rfl; have e51 : v51 = (.agg #[.int .u64 (h : Nat), .int .u64 (hw : Nat), .int .u64 (hs : Nat)]) := p51; subst e51; obtain ⟨v52, t52, p52⟩ := hdep 8 rfl _ 52 rfl rfl; have e52 : v52 = (.agg #[.int .u64 (y : Nat), .int .u64 (yw : Nat), .int .u64 (ys : Nat)]) := p52; subst e52; have HW : Hid (Calls Try.prog fn (#[.agg #[.int .u64 (h : Nat), .int .u64 (hw : Nat), .int .u64 (hs : Nat)], .agg #[.int .u64 (y : Nat), .int .u64 (yw : Nat), .int .u64 (ys : Nat)]] ++ cap) wx _) := HC.out wx (below_join HBY.out hB); clear hold hdep; go_simp; refine HW.out.mono ?_; rintro _ w9 ⟨rfl, hb9⟩; go_simp; exact hK.out _ _ rfl hb9
        · intro a wx hB hold hdep K hK
          obtain ⟨v45, t45, p45⟩ := hdep 1 rfl _ 45 rfl rfl; have e45 : v45 = (.bool true) := p45; subst e45; obtain ⟨v53, t53, p53⟩ := hdep 9 rfl _ 53 rfl rfl; have e53 : v53 = (.bool r) := p53; subst e53; clear hold hdep; go_simp; exact hK.out _ _ rfl (Below.refl _ _)
      · intro a wx hB hold hgot
        obtain ⟨vZ, tvZ, pvZ⟩ := hgot 10 _ 54 rfl rfl; have evZ : vZ = (.bool r) := pvZ; subst evZ; have HBx : Hid (Below Y.heap.size Y wx) := hB; obtain ⟨tm, df⟩ := a; (obtain ⟨ys, hys, htm, rfl⟩ := frame_mid2 44 11 (by kernel_rfl) (Nat.le_of_ble_eq_true rfl) hold); obtain ⟨x44, x45, x46, x47, x48, x49, x50, x51, x52, x53, x54, rfl⟩ := rowH11 ys hys; simp only [List.take_succ_cons, List.take_zero, List.drop_succ_cons, List.drop_zero, List.cons_append, List.nil_append] at htm; subst htm; obtain rfl : x54 = _ := someInjM tvZ; clear hys hold hgot tvZ hB; obtain ⟨V, hVx⟩ : ∃ V, V = wx := ⟨_, rfl⟩; subst hVx; have HB2 : Hid (Below W0.heap.size W0 V) := below_join HBY.out HBx.out; have HH2 : Hid (V.heap[w.heap.size]? = some (.cells #[.int .u64 (h : Nat), .int .u64 (hw : Nat), .int .u64 (hs : Nat)] 104 (0, 0))) := below_keep HBx.out HYh.out; have HR2 : Hid (V.ownsRow W0.heap.size 104 3 (.slice ad ch'.length cp) ch'.length (encW ps ch')) := rowM_up HYr.out HBx.out; have HVy : Hid (V.heap[wr.heap.size]? = some (.cells #[.int .u64 (y : Nat), .int .u64 (yw : Nat), .int .u64 (ys : Nat)] 104 (0, 0))) := below_keep HBx.out HYy.out; obtain ⟨u0, u1, u2, -⟩ := blk3 HVy.out; clear HBx HC HYh HYr HYy HBY
        cases r
        · go_wp2_with fail
          go_roundg (l.length - (i + 1))
          case measure => have := HGk.out; have := HI.out; omega
          case rel => exact ⟨i + 1, x, ch', ad, cp, HI.out, rfl, by go_num, rfl, rfl, by rw [hse], HX, by have := HCl.out; show _ ≤ _; omega, HNo.out (by simp), HR2, HOb9, HH2, HB2⟩
        · obtain ⟨x2, hx2⟩ : ∃ x2, x2 = x ||| ys := ⟨_, rfl⟩
          have hor : bits .or .u64 (x : Int) (ys : Int) = (x2 : Int) := by
            rw [hx2]; (exact u64_or (by rw [HX.out]; exact bm_small HL.out _) (by rw [HYs.out]; exact bm_small HL.out _))
          have HX2 : Hid (x2 = bm ps.length (shF ps (S ps) (ch' ++ [y]) h)) := by
            show _ = _; rw [hx2, HX.out, HYs.out, bm_or]; (exact bm_ext fun n _ => by unfold shF; rw [List.any_append]; simp [← HRr.out])
          (have HFy : Hid (Fild ps (S ps) sm (l.take (i + 1)) ch (ch' ++ [y]) h) := HYe.out (by simp) (by simp)); obtain ⟨i0, hi0, hz0, hz1, hz2⟩ := infoW; clear hx2 HYe HNo
          go_wp2_with (first
            | (at_builtin
               have hsz := HB2.out.size; have hlm := HCl.out; have hnm := HLl.out; have hil := HI.out; have hown := rowM_up HR2.out ((Below.refl _ V).alloc (Nat.le_refl _) (.cells #[.int .u64 (y : Nat), .int .u64 (yw : Nat), .int .u64 (ys : Nat)] 104 (0, 0))); (refine wpList_append_lies _ rfl _ _ 137 rfl W0.heap.size 104 i0 (.agg #[.int .u64 0, .int .u64 0, .int .u64 0]) 3 24 Try.underlying137 hi0 hz0 hz1 hz2 rfl (by decide) (.slice ad ch'.length cp) ch'.length (encW ps ch') rfl hown ⟨V.heap.size, 0, none⟩ 1 1 [.int .u64 (y : Nat), .int .u64 (yw : Nat), .int .u64 (ys : Nat)] rfl rfl ?_ ?_ (by omega) (by unfold maxLen; omega) (by omega) (by simp; omega) _ rfl ?_)
               · intro j u hu
                 rw [add_none, Nat.zero_add, blk_cell (blk_new V _)]; simpa using hu
               · intro u hu
                 simp at hu
                 rcases hu with rfl | rfl | rfl <;> rfl
               intro g3 cp3 w3 hown3 hgrow hat hlt3; have hgrow' : (V.alloc (.cells #[.int .u64 (y : Nat), .int .u64 (yw : Nat), .int .u64 (ys : Nat)] 104 (0, 0))).grownBy w3 (Value.slice ad ch'.length cp).ownBlock := hgrow; have hlt' := HR2.out.lt; have hownV := HR2.out; (have HB3 : Hid (Below W0.heap.size W0 w3) := ((HB2.out.alloc hsz _).grown hgrow' (by simp; omega) fun k hk => by have := (hlt' k hk).1; omega)); (have HH3 : Hid (w3.heap[w.heap.size]? = some (.cells #[.int .u64 (h : Nat), .int .u64 (hw : Nat), .int .u64 (hs : Nat)] 104 (0, 0))) := grown_blk hgrow' HH2.out (fun e => HOb9.out _ e rfl)); (obtain ⟨-, -, k3, -⟩ := blk3 (grown_blk hgrow' HVy.out (fun e => Nat.lt_irrefl _ (HOy.out _ e)))); (have HO3 : Hid (∀ k, (Value.slice (some ⟨g3, 0, none⟩) (ch'.length + 1) cp3).ownBlock = some k → k ≠ w.heap.size) := fun k hk => grown_own hat HOb9.out (by have := lt_of_block HH2.out; simp; omega) hk); have HOw3 : Hid (w3.ownsRow W0.heap.size 104 3 (.slice (some ⟨g3, 0, none⟩) (ch'.length + 1) cp3) (ch'.length + 1) (encW ps ch' ++ [.int .u64 (y : Nat), .int .u64 (yw : Nat), .int .u64 (ys : Nat)])) := hown3
               clear hgrow hgrow' hat hown3 hown hlt' hsz hlt3 hi0 hz0 hz1 hz2 hlm hnm hil hownV u0 u1 u2)
            | fail)
          (have hl9 : (ch' ++ [y]).length = ch'.length + 1 := by simp)
          go_roundg (l.length - (i + 1))
          case measure => have := HGk.out; have := HI.out; omega
          case rel =>
            (refine ⟨i + 1, x2, ch' ++ [y], some ⟨g3, 0, none⟩, cp3, HI.out, rfl, by go_num, by rw [hl9], by go_num, by rw [HAn.out, ← HRr.out, Bool.or_true], HX2, by rw [hl9]; have := HCl.out; show _ ≤ _; omega, HFy, ?_, ?_, HH3, HB3⟩)
            · rw [hl9, ← HEn.out]
              exact HOw3
            · rw [hl9]
              exact HO3
    · go_wp2_with fail
      (refine wp_region_free (by kernel_rfl) [fun v _ => v = (.bool false), fun v _ => v = (.bool false), fun _ _ => True, fun _ _ => True, fun _ _ => True, fun _ _ => True, fun _ _ => True, fun _ _ => True, fun _ _ => True, fun _ _ => True, fun v _ => v = (.bool false)] ?_ (by kernel_rfl) (by kernel_rfl) 65 rfl (by kernel_rfl) ?_ ?_)
      · intro p hp
        simp only [List.mem_cons, List.not_mem_nil, or_false] at hp
        rcases hp with rfl | rfl | rfl | rfl | rfl | rfl | rfl | rfl | rfl | rfl | rfl
        · exact fun _ _ _ h _ => h
        · exact fun _ _ _ h _ => h
        · exact fun _ _ _ h _ => h
        · exact fun _ _ _ h _ => h
        · exact fun _ _ _ h _ => h
        · exact fun _ _ _ h _ => h
        · exact fun _ _ _ h _ => h
        · exact fun _ _ _ h _ => h
        · exact fun _ _ _ h _ => h
        · exact fun _ _ _ h _ => h
        · exact fun _ _ _ h _ => h
      · refine ⟨?_, ?_, ?_, ?_, ?_, ?_, ?_, ?_, ?_, ?_, ?_, trivial⟩
        · intro a wx hB hold hdep K hK
          have t11 : a.tmps[11]? = some (.bool false) := hold.2.2 11 rfl; clear hold hdep; go_simp; exact hK.out _ _ rfl (Below.refl _ _)
        · intro a wx hB hold hdep K hK
          obtain ⟨v44, t44, p44⟩ := hdep 0 rfl _ 44 rfl rfl; have e44 : v44 = (.bool false) := p44; subst e44; clear hold hdep; go_simp; exact hK.out _ _ rfl (Below.refl _ _)
        · intro a wx hB hold hdep K hK
          obtain ⟨v45, t45, p45⟩ := hdep 1 rfl _ 45 rfl rfl; have e45 : v45 = (.bool false) := p45; subst e45; clear hold hdep; go_simp; exact hK.out _ _ trivial (Below.refl _ _)
        · intro a wx hB hold hdep K hK
          obtain ⟨v45, t45, p45⟩ := hdep 1 rfl _ 45 rfl rfl; have e45 : v45 = (.bool false) := p45; subst e45; clear hold hdep; go_simp; exact hK.out _ _ trivial (Below.refl _ _)
        · intro a wx hB hold hdep K hK
          obtain ⟨v45, t45, p45⟩ := hdep 1 rfl _ 45 rfl rfl; have e45 : v45 = (.bool false) := p45; subst e45; clear hold hdep; go_simp; exact hK.out _ _ trivial (Below.refl _ _)
        · intro a wx hB hold hdep K hK
          obtain ⟨v45, t45, p45⟩ := hdep 1 rfl _ 45 rfl rfl; have e45 : v45 = (.bool false) := p45; subst e45; clear hold hdep; go_simp; exact hK.out _ _ trivial (Below.refl _ _)
        · intro a wx hB hold hdep K hK
          obtain ⟨v45, t45, p45⟩ := hdep 1 rfl _ 45 rfl rfl; have e45 : v45 = (.bool false) := p45; subst e45; clear hold hdep; go_simp; exact hK.out _ _ trivial (Below.refl _ _)
        · intro a wx hB hold hdep K hK
          obtain ⟨v45, t45, p45⟩ := hdep 1 rfl _ 45 rfl rfl; have e45 : v45 = (.bool false) := p45; subst e45; clear hold hdep; go_simp; exact hK.out _ _ trivial (Below.refl _ _)
        · intro a wx hB hold hdep K hK
          obtain ⟨v45, t45, p45⟩ := hdep 1 rfl _ 45 rfl rfl; have e45 : v45 = (.bool false) := p45; subst e45; clear hold hdep; go_simp; exact hK.out _ _ trivial (Below.refl _ _)
        · intro a wx hB hold hdep K hK
          obtain ⟨v45, t45, p45⟩ := hdep 1 rfl _ 45 rfl rfl; have e45 : v45 = (.bool false) := p45; subst e45; clear hold hdep; go_simp; exact hK.out _ _ trivial (Below.refl _ _)
        · intro a wx hB hold hdep K hK
          obtain ⟨v45, t45, p45⟩ := hdep 1 rfl _ 45 rfl rfl; have e45 : v45 = (.bool false) := p45; subst e45; clear hold hdep; go_simp; exact hK.out _ _ rfl (Below.refl _ _)
      · intro a wx hB hold hgot
        obtain ⟨vZ, tvZ, pvZ⟩ := hgot 10 _ 54 rfl rfl; have evZ : vZ = (.bool false) := pvZ; subst evZ; have HBx : Hid (Below Y.heap.size Y wx) := hB; obtain ⟨tm, df⟩ := a; (obtain ⟨ys, hys, htm, rfl⟩ := frame_mid2 44 11 (by kernel_rfl) (Nat.le_of_ble_eq_true rfl) hold); obtain ⟨x44, x45, x46, x47, x48, x49, x50, x51, x52, x53, x54, rfl⟩ := rowH11 ys hys; simp only [List.take_succ_cons, List.take_zero, List.drop_succ_cons, List.drop_zero, List.cons_append, List.nil_append] at htm; subst htm; obtain rfl : x54 = _ := someInjM tvZ; clear hys hold hgot tvZ hB; obtain ⟨V, hVx⟩ : ∃ V, V = wx := ⟨_, rfl⟩; subst hVx; have HB2 : Hid (Below W0.heap.size W0 V) := below_join HBY.out HBx.out; have HH2 : Hid (V.heap[w.heap.size]? = some (.cells #[.int .u64 (h : Nat), .int .u64 (hw : Nat), .int .u64 (hs : Nat)] 104 (0, 0))) := below_keep HBx.out HYh.out; have HR2 : Hid (V.ownsRow W0.heap.size 104 3 (.slice ad ch'.length cp) ch'.length (encW ps ch')) := rowM_up HYr.out HBx.out; have HVy : Hid (V.heap[wr.heap.size]? = some (.cells #[.int .u64 (y : Nat), .int .u64 (yw : Nat), .int .u64 (ys : Nat)] 104 (0, 0))) := below_keep HBx.out HYy.out; obtain ⟨u0, u1, u2, -⟩ := blk3 HVy.out; clear HBx HC HYh HYr HYy HBY; go_wp2_with fail
        go_roundg (l.length - (i + 1))
        case measure => have := HGk.out; have := HI.out; omega
        case rel => exact ⟨i + 1, x, ch', ad, cp, HI.out, rfl, by go_num, rfl, rfl, by rw [hse], HX, by have := HCl.out; show _ ≤ _; omega, HNo.out (by simp), HR2, HOb9, HH2, HB2⟩
    · cases se
      · go_wp2_with fail
        (refine wp_region_free (by kernel_rfl) [fun v _ => v = (.bool true), fun v _ => v = (.bool true), fun v _ => v = (.pointer (some ⟨bF, 0, none⟩)), fun v _ => v = (.pointer (some ⟨bF, 0, none⟩)), fun v _ => v = (.pointer (some ⟨bF, 1, none⟩)), fun v _ => v = (.pointer (some ⟨bF, 1, none⟩)), fun v _ => v = (.func (.func fn) #[] cap), fun v _ => v = (.agg #[.int .u64 (h : Nat), .int .u64 (hw : Nat), .int .u64 (hs : Nat)]), fun v _ => v = (.agg #[.int .u64 (y : Nat), .int .u64 (yw : Nat), .int .u64 (ys : Nat)]), fun v _ => v = (.bool r), fun v _ => v = (.bool r)] ?_ (by kernel_rfl) (by kernel_rfl) 65 rfl (by kernel_rfl) ?_ ?_)
        · intro p hp
          simp only [List.mem_cons, List.not_mem_nil, or_false] at hp
          rcases hp with rfl | rfl | rfl | rfl | rfl | rfl | rfl | rfl | rfl | rfl | rfl
          · exact fun _ _ _ h _ => h
          · exact fun _ _ _ h _ => h
          · exact fun _ _ _ h _ => h
          · exact fun _ _ _ h _ => h
          · exact fun _ _ _ h _ => h
          · exact fun _ _ _ h _ => h
          · exact fun _ _ _ h _ => h
          · exact fun _ _ _ h _ => h
          · exact fun _ _ _ h _ => h
          · exact fun _ _ _ h _ => h
          · exact fun _ _ _ h _ => h
        · refine ⟨?_, ?_, ?_, ?_, ?_, ?_, ?_, ?_, ?_, ?_, ?_, trivial⟩
          · intro a wx hB hold hdep K hK
            have t11 : a.tmps[11]? = some (.bool true) := hold.2.2 11 rfl; clear hold hdep; go_simp; exact hK.out _ _ rfl (Below.refl _ _)
          · intro a wx hB hold hdep K hK
            obtain ⟨v44, t44, p44⟩ := hdep 0 rfl _ 44 rfl rfl; have e44 : v44 = (.bool true) := p44; subst e44; clear hold hdep; go_simp; exact hK.out _ _ rfl (Below.refl _ _)
          · intro a wx hB hold hdep K hK
            obtain ⟨v45, t45, p45⟩ := hdep 1 rfl _ 45 rfl rfl; have e45 : v45 = (.bool true) := p45; subst e45; have t0 : a.tmps[0]? = some (.pointer (some ⟨bF, 0, none⟩)) := hold.2.2 0 rfl; clear hold hdep; go_simp; exact hK.out _ _ rfl (Below.refl _ _)
          · intro a wx hB hold hdep K hK
            obtain ⟨v45, t45, p45⟩ := hdep 1 rfl _ 45 rfl rfl; have e45 : v45 = (.bool true) := p45; subst e45; obtain ⟨v46, t46, p46⟩ := hdep 2 rfl _ 46 rfl rfl; have e46 : v46 = (.pointer (some ⟨bF, 0, none⟩)) := p46; subst e46; clear hold hdep; go_simp; exact hK.out _ _ rfl (Below.refl _ _)
          · intro a wx hB hold hdep K hK
            obtain ⟨v45, t45, p45⟩ := hdep 1 rfl _ 45 rfl rfl; have e45 : v45 = (.bool true) := p45; subst e45; obtain ⟨v47, t47, p47⟩ := hdep 3 rfl _ 47 rfl rfl; have e47 : v47 = (.pointer (some ⟨bF, 0, none⟩)) := p47; subst e47; clear hold hdep; go_simp; exact hK.out _ _ rfl (Below.refl _ _)
          · intro a wx hB hold hdep K hK
            obtain ⟨v45, t45, p45⟩ := hdep 1 rfl _ 45 rfl rfl; have e45 : v45 = (.bool true) := p45; subst e45; obtain ⟨v48, t48, p48⟩ := hdep 4 rfl _ 48 rfl rfl; have e48 : v48 = (.pointer (some ⟨bF, 1, none⟩)) := p48; subst e48; clear hold hdep; go_simp; exact hK.out _ _ rfl (Below.refl _ _)
          · intro a wx hB hold hdep K hK
            obtain ⟨v45, t45, p45⟩ := hdep 1 rfl _ 45 rfl rfl; have e45 : v45 = (.bool true) := p45; subst e45; obtain ⟨v49, t49, p49⟩ := hdep 5 rfl _ 49 rfl rfl; have e49 : v49 = (.pointer (some ⟨bF, 1, none⟩)) := p49; subst e49; obtain ⟨q0, q1, q2, q3, q4, -⟩ := blkF (below_keep hB (below_keep HBY.out HF.out)); clear hold hdep; go_simp; exact hK.out _ _ rfl (Below.refl _ _)
          · intro a wx hB hold hdep K hK
            obtain ⟨v45, t45, p45⟩ := hdep 1 rfl _ 45 rfl rfl; have e45 : v45 = (.bool true) := p45; subst e45; have t5 : a.tmps[5]? = some (.pointer (some ⟨w.heap.size, 0, none⟩)) := hold.2.2 5 rfl; obtain ⟨q0, q1, q2, -⟩ := blk3 (below_keep hB HYh.out); clear hold hdep; go_simp; exact hK.out _ _ rfl (Below.refl _ _)
          · intro a wx hB hold hdep K hK
            obtain ⟨v45, t45, p45⟩ := hdep 1 rfl _ 45 rfl rfl; have e45 : v45 = (.bool true) := p45; subst e45; have t10 : a.tmps[10]? = some (.pointer (some ⟨wr.heap.size, 0, none⟩)) := hold.2.2 10 rfl; obtain ⟨q0, q1, q2, -⟩ := blk3 (below_keep hB HYy.out); clear hold hdep; go_simp; exact hK.out _ _ rfl (Below.refl _ _)
          · intro a wx hB hold hdep K hK
            obtain ⟨v45, t45, p45⟩ := hdep 1 rfl _ 45 rfl rfl; have e45 : v45 = (.bool true) := p45; subst e45; obtain ⟨v50, t50, p50⟩ := hdep 6 rfl _ 50 rfl rfl; have e50 : v50 = (.func (.func fn) #[] cap) := p50; subst e50; obtain ⟨v51, t51, p51⟩ := hdep 7 rfl _ 51 rfl rfl; have e51 : v51 = (.agg #[.int .u64 (h : Nat), .int .u64 (hw : Nat), .int .u64 (hs : Nat)]) := p51; subst e51; obtain ⟨v52, t52, p52⟩ := hdep 8 rfl _ 52 rfl rfl; have e52 : v52 = (.agg #[.int .u64 (y : Nat), .int .u64 (yw : Nat), .int .u64 (ys : Nat)]) := p52; subst e52; have HW : Hid (Calls Try.prog fn (#[.agg #[.int .u64 (h : Nat), .int .u64 (hw : Nat), .int .u64 (hs : Nat)], .agg #[.int .u64 (y : Nat), .int .u64 (yw : Nat), .int .u64 (ys : Nat)]] ++ cap) wx _) := HC.out wx (below_join HBY.out hB); clear hold hdep; go_simp; refine HW.out.mono ?_; rintro _ w9 ⟨rfl, hb9⟩; go_simp; exact hK.out _ _ rfl hb9
          · intro a wx hB hold hdep K hK
            obtain ⟨v45, t45, p45⟩ := hdep 1 rfl _ 45 rfl rfl; have e45 : v45 = (.bool true) := p45; subst e45; obtain ⟨v53, t53, p53⟩ := hdep 9 rfl _ 53 rfl rfl; have e53 : v53 = (.bool r) := p53; subst e53; clear hold hdep; go_simp; exact hK.out _ _ rfl (Below.refl _ _)
        · intro a wx hB hold hgot
          obtain ⟨vZ, tvZ, pvZ⟩ := hgot 10 _ 54 rfl rfl; have evZ : vZ = (.bool r) := pvZ; subst evZ; have HBx : Hid (Below Y.heap.size Y wx) := hB; obtain ⟨tm, df⟩ := a; (obtain ⟨ys, hys, htm, rfl⟩ := frame_mid2 44 11 (by kernel_rfl) (Nat.le_of_ble_eq_true rfl) hold); obtain ⟨x44, x45, x46, x47, x48, x49, x50, x51, x52, x53, x54, rfl⟩ := rowH11 ys hys; simp only [List.take_succ_cons, List.take_zero, List.drop_succ_cons, List.drop_zero, List.cons_append, List.nil_append] at htm; subst htm; obtain rfl : x54 = _ := someInjM tvZ; clear hys hold hgot tvZ hB; obtain ⟨V, hVx⟩ : ∃ V, V = wx := ⟨_, rfl⟩; subst hVx; have HB2 : Hid (Below W0.heap.size W0 V) := below_join HBY.out HBx.out; have HH2 : Hid (V.heap[w.heap.size]? = some (.cells #[.int .u64 (h : Nat), .int .u64 (hw : Nat), .int .u64 (hs : Nat)] 104 (0, 0))) := below_keep HBx.out HYh.out; have HR2 : Hid (V.ownsRow W0.heap.size 104 3 (.slice ad ch'.length cp) ch'.length (encW ps ch')) := rowM_up HYr.out HBx.out; have HVy : Hid (V.heap[wr.heap.size]? = some (.cells #[.int .u64 (y : Nat), .int .u64 (yw : Nat), .int .u64 (ys : Nat)] 104 (0, 0))) := below_keep HBx.out HYy.out; obtain ⟨u0, u1, u2, -⟩ := blk3 HVy.out; clear HBx HC HYh HYr HYy HBY
          cases r
          · go_wp2_with fail
            go_roundg (l.length - (i + 1))
            case measure => have := HGk.out; have := HI.out; omega
            case rel => exact ⟨i + 1, x, ch', ad, cp, HI.out, rfl, by go_num, rfl, rfl, by rw [hse], HX, by have := HCl.out; show _ ≤ _; omega, HNo.out (by simp), HR2, HOb9, HH2, HB2⟩
          · obtain ⟨x2, hx2⟩ : ∃ x2, x2 = x ||| ys := ⟨_, rfl⟩
            have hor : bits .or .u64 (x : Int) (ys : Int) = (x2 : Int) := by
              rw [hx2]; (exact u64_or (by rw [HX.out]; exact bm_small HL.out _) (by rw [HYs.out]; exact bm_small HL.out _))
            have HX2 : Hid (x2 = bm ps.length (shF ps (S ps) (ch' ++ [y]) h)) := by
              show _ = _; rw [hx2, HX.out, HYs.out, bm_or]; (exact bm_ext fun n _ => by unfold shF; rw [List.any_append]; simp [← HRr.out])
            (have HFy : Hid (Fild ps (S ps) true (l.take (i + 1)) ch (ch' ++ [y]) h) := HYe.out (by simp) (by simp)); obtain ⟨i0, hi0, hz0, hz1, hz2⟩ := infoW; clear hx2 HYe HNo
            go_wp2_with (first
              | (at_builtin
                 have hsz := HB2.out.size; have hlm := HCl.out; have hnm := HLl.out; have hil := HI.out; have hown := rowM_up HR2.out ((Below.refl _ V).alloc (Nat.le_refl _) (.cells #[.int .u64 (y : Nat), .int .u64 (yw : Nat), .int .u64 (ys : Nat)] 104 (0, 0))); (refine wpList_append_lies _ rfl _ _ 137 rfl W0.heap.size 104 i0 (.agg #[.int .u64 0, .int .u64 0, .int .u64 0]) 3 24 Try.underlying137 hi0 hz0 hz1 hz2 rfl (by decide) (.slice ad ch'.length cp) ch'.length (encW ps ch') rfl hown ⟨V.heap.size, 0, none⟩ 1 1 [.int .u64 (y : Nat), .int .u64 (yw : Nat), .int .u64 (ys : Nat)] rfl rfl ?_ ?_ (by omega) (by unfold maxLen; omega) (by omega) (by simp; omega) _ rfl ?_)
                 · intro j u hu
                   rw [add_none, Nat.zero_add, blk_cell (blk_new V _)]; simpa using hu
                 · intro u hu
                   simp at hu
                   rcases hu with rfl | rfl | rfl <;> rfl
                 intro g3 cp3 w3 hown3 hgrow hat hlt3; have hgrow' : (V.alloc (.cells #[.int .u64 (y : Nat), .int .u64 (yw : Nat), .int .u64 (ys : Nat)] 104 (0, 0))).grownBy w3 (Value.slice ad ch'.length cp).ownBlock := hgrow; have hlt' := HR2.out.lt; have hownV := HR2.out; (have HB3 : Hid (Below W0.heap.size W0 w3) := ((HB2.out.alloc hsz _).grown hgrow' (by simp; omega) fun k hk => by have := (hlt' k hk).1; omega)); (have HH3 : Hid (w3.heap[w.heap.size]? = some (.cells #[.int .u64 (h : Nat), .int .u64 (hw : Nat), .int .u64 (hs : Nat)] 104 (0, 0))) := grown_blk hgrow' HH2.out (fun e => HOb9.out _ e rfl)); (obtain ⟨-, -, k3, -⟩ := blk3 (grown_blk hgrow' HVy.out (fun e => Nat.lt_irrefl _ (HOy.out _ e)))); (have HO3 : Hid (∀ k, (Value.slice (some ⟨g3, 0, none⟩) (ch'.length + 1) cp3).ownBlock = some k → k ≠ w.heap.size) := fun k hk => grown_own hat HOb9.out (by have := lt_of_block HH2.out; simp; omega) hk); have HOw3 : Hid (w3.ownsRow W0.heap.size 104 3 (.slice (some ⟨g3, 0, none⟩) (ch'.length + 1) cp3) (ch'.length + 1) (encW ps ch' ++ [.int .u64 (y : Nat), .int .u64 (yw : Nat), .int .u64 (ys : Nat)])) := hown3
                 clear hgrow hgrow' hat hown3 hown hlt' hsz hlt3 hi0 hz0 hz1 hz2 hlm hnm hil hownV u0 u1 u2)
              | fail)
            (have hl9 : (ch' ++ [y]).length = ch'.length + 1 := by simp)
            go_roundg (l.length - (i + 1))
            case measure => have := HGk.out; have := HI.out; omega
            case rel =>
              (refine ⟨i + 1, x2, ch' ++ [y], some ⟨g3, 0, none⟩, cp3, HI.out, rfl, by go_num, by rw [hl9], by go_num, by rw [HAn.out, ← HRr.out, Bool.or_true], HX2, by rw [hl9]; have := HCl.out; show _ ≤ _; omega, HFy, ?_, ?_, HH3, HB3⟩)
              · rw [hl9, ← HEn.out]
                exact HOw3
              · rw [hl9]
                exact HO3
      · go_wp2_with fail
        (refine wp_region_free (by kernel_rfl) [fun v _ => v = (.bool false), fun v _ => v = (.bool false), fun _ _ => True, fun _ _ => True, fun _ _ => True, fun _ _ => True, fun _ _ => True, fun _ _ => True, fun _ _ => True, fun _ _ => True, fun v _ => v = (.bool false)] ?_ (by kernel_rfl) (by kernel_rfl) 65 rfl (by kernel_rfl) ?_ ?_)
        · intro p hp
          simp only [List.mem_cons, List.not_mem_nil, or_false] at hp
          rcases hp with rfl | rfl | rfl | rfl | rfl | rfl | rfl | rfl | rfl | rfl | rfl
          · exact fun _ _ _ h _ => h
          · exact fun _ _ _ h _ => h
          · exact fun _ _ _ h _ => h
          · exact fun _ _ _ h _ => h
          · exact fun _ _ _ h _ => h
          · exact fun _ _ _ h _ => h
          · exact fun _ _ _ h _ => h
          · exact fun _ _ _ h _ => h
          · exact fun _ _ _ h _ => h
          · exact fun _ _ _ h _ => h
          · exact fun _ _ _ h _ => h
        · refine ⟨?_, ?_, ?_, ?_, ?_, ?_, ?_, ?_, ?_, ?_, ?_, trivial⟩
          · intro a wx hB hold hdep K hK
            have t11 : a.tmps[11]? = some (.bool false) := hold.2.2 11 rfl; clear hold hdep; go_simp; exact hK.out _ _ rfl (Below.refl _ _)
          · intro a wx hB hold hdep K hK
            obtain ⟨v44, t44, p44⟩ := hdep 0 rfl _ 44 rfl rfl; have e44 : v44 = (.bool false) := p44; subst e44; clear hold hdep; go_simp; exact hK.out _ _ rfl (Below.refl _ _)
          · intro a wx hB hold hdep K hK
            obtain ⟨v45, t45, p45⟩ := hdep 1 rfl _ 45 rfl rfl; have e45 : v45 = (.bool false) := p45; subst e45; clear hold hdep; go_simp; exact hK.out _ _ trivial (Below.refl _ _)
          · intro a wx hB hold hdep K hK
            obtain ⟨v45, t45, p45⟩ := hdep 1 rfl _ 45 rfl rfl; have e45 : v45 = (.bool false) := p45; subst e45; clear hold hdep; go_simp; exact hK.out _ _ trivial (Below.refl _ _)
          · intro a wx hB hold hdep K hK
            obtain ⟨v45, t45, p45⟩ := hdep 1 rfl _ 45 rfl rfl; have e45 : v45 = (.bool false) := p45; subst e45; clear hold hdep; go_simp; exact hK.out _ _ trivial (Below.refl _ _)
          · intro a wx hB hold hdep K hK
            obtain ⟨v45, t45, p45⟩ := hdep 1 rfl _ 45 rfl rfl; have e45 : v45 = (.bool false) := p45; subst e45; clear hold hdep; go_simp; exact hK.out _ _ trivial (Below.refl _ _)
          · intro a wx hB hold hdep K hK
            obtain ⟨v45, t45, p45⟩ := hdep 1 rfl _ 45 rfl rfl; have e45 : v45 = (.bool false) := p45; subst e45; clear hold hdep; go_simp; exact hK.out _ _ trivial (Below.refl _ _)
          · intro a wx hB hold hdep K hK
            obtain ⟨v45, t45, p45⟩ := hdep 1 rfl _ 45 rfl rfl; have e45 : v45 = (.bool false) := p45; subst e45; clear hold hdep; go_simp; exact hK.out _ _ trivial (Below.refl _ _)
          · intro a wx hB hold hdep K hK
            obtain ⟨v45, t45, p45⟩ := hdep 1 rfl _ 45 rfl rfl; have e45 : v45 = (.bool false) := p45; subst e45; clear hold hdep; go_simp; exact hK.out _ _ trivial (Below.refl _ _)
          · intro a wx hB hold hdep K hK
            obtain ⟨v45, t45, p45⟩ := hdep 1 rfl _ 45 rfl rfl; have e45 : v45 = (.bool false) := p45; subst e45; clear hold hdep; go_simp; exact hK.out _ _ trivial (Below.refl _ _)
          · intro a wx hB hold hdep K hK
            obtain ⟨v45, t45, p45⟩ := hdep 1 rfl _ 45 rfl rfl; have e45 : v45 = (.bool false) := p45; subst e45; clear hold hdep; go_simp; exact hK.out _ _ rfl (Below.refl _ _)
        · intro a wx hB hold hgot
          obtain ⟨vZ, tvZ, pvZ⟩ := hgot 10 _ 54 rfl rfl; have evZ : vZ = (.bool false) := pvZ; subst evZ; have HBx : Hid (Below Y.heap.size Y wx) := hB; obtain ⟨tm, df⟩ := a; (obtain ⟨ys, hys, htm, rfl⟩ := frame_mid2 44 11 (by kernel_rfl) (Nat.le_of_ble_eq_true rfl) hold); obtain ⟨x44, x45, x46, x47, x48, x49, x50, x51, x52, x53, x54, rfl⟩ := rowH11 ys hys; simp only [List.take_succ_cons, List.take_zero, List.drop_succ_cons, List.drop_zero, List.cons_append, List.nil_append] at htm; subst htm; obtain rfl : x54 = _ := someInjM tvZ; clear hys hold hgot tvZ hB; obtain ⟨V, hVx⟩ : ∃ V, V = wx := ⟨_, rfl⟩; subst hVx; have HB2 : Hid (Below W0.heap.size W0 V) := below_join HBY.out HBx.out; have HH2 : Hid (V.heap[w.heap.size]? = some (.cells #[.int .u64 (h : Nat), .int .u64 (hw : Nat), .int .u64 (hs : Nat)] 104 (0, 0))) := below_keep HBx.out HYh.out; have HR2 : Hid (V.ownsRow W0.heap.size 104 3 (.slice ad ch'.length cp) ch'.length (encW ps ch')) := rowM_up HYr.out HBx.out; have HVy : Hid (V.heap[wr.heap.size]? = some (.cells #[.int .u64 (y : Nat), .int .u64 (yw : Nat), .int .u64 (ys : Nat)] 104 (0, 0))) := below_keep HBx.out HYy.out; obtain ⟨u0, u1, u2, -⟩ := blk3 HVy.out; clear HBx HC HYh HYr HYy HBY; go_wp2_with fail
          go_roundg (l.length - (i + 1))
          case measure => have := HGk.out; have := HI.out; omega
          case rel => exact ⟨i + 1, x, ch', ad, cp, HI.out, rfl, by go_num, rfl, rfl, by rw [hse], HX, by have := HCl.out; show _ ≤ _; omega, HNo.out (by simp), HR2, HOb9, HH2, HB2⟩
end Go.Proofs.Ytmahgfgndfcmpag
