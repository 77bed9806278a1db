/- Texts of one proof, one behind the other: SN1, SN2. -/
import Derived.Test.YtblodnpfckflaakB23
/- Walks: eachBigName; hasMeanings. -/
namespace Go.Proofs.Ytblodnpfckflaak
open Go.RowKit Go.Sort Go.Maps Go.WideMaps

section
variable {w0 : World} {fn : Nat} {cap : Array Value} {M : Nat} {Inv : List BgN → (Nat → Prop) → World → Prop}
set_option maxRecDepth 10000 in
set_option maxHeartbeats 4000000 in
/-- The closure that looks at an expression. -/
theorem bigE_any (V : VisN w0 fn cap M Inv) (vb : Nat) (done : List BgN) (T : Nat → Prop) (x : Ex) (v u : Value) (w : World) (hM : done.length + (Wd.sizes (exWs x) + 1) ≤ M) (hr : ERp w0 x v) (hb : Below w0.heap.size w0 w) (hi : InvB w0 fn cap vb Inv done T w) :
    Calls Try.prog 65 #[v, u, .pointer (some ⟨vb, 0, none⟩)] w fun e w' => e = .returned (.tuple #[]) ∧ VEnd (InvB w0 fn cap vb Inv (done ++ bgE x)) T w w' := by
  have HV : Hid (VisN w0 fn cap M Inv) := V; obtain ⟨k, n, ws, ks⟩ := x; obtain ⟨sw, cw, sk, ck, rfl, hn, hwl, -⟩ := ERp.def.1 hr; have hM' : done.length + (Wd.sizes ws + 1) ≤ M := hM
  have hwm : ws.length ≤ maxLen := by
    obtain ⟨sl', cap', e, g1, g2, -⟩ := hwl; omega
  (have hlI : ((ws.length : Nat) : Int) ≤ 9223372036854775807 := by unfold maxLen at hwm; omega); obtain ⟨W, hWe⟩ : ∃ W, w.alloc (.cells #[.int .i64 k, .string n, .slice sw ws.length cw, .slice sk ks.length ck] 29 (0, 0)) = W := ⟨_, rfl⟩; (have hBW : Below w.heap.size w W := by rw [← hWe]; exact below_more (Below.refl _ _) _); (have hq : W.heap[w.heap.size]? = some (.cells #[.int .i64 k, .string n, .slice sw ws.length cw, .slice sk ks.length ck] 29 (0, 0)) := by rw [← hWe]; exact blk_new _ _); have HQ : Hid (W.heap[w.heap.size]? = some (.cells #[.int .i64 k, .string n, .slice sw ws.length cw, .slice sk ks.length ck] 29 (0, 0))) := hq; have HBW : Hid (Below w.heap.size w W) := hBW; have HT : Hid (∀ b, T b → w0.heap.size ≤ b ∧ b < w.heap.size) := hi.lt V; have HB0 : Hid (Below w0.heap.size w0 W) := hb.trans (hBW.mono hb.size)
  have hiW : InvB w0 fn cap vb Inv done T W := hi.stay V (kept_of_below hBW fun b _ h => by
    rcases h with h | h
    · exact (hi.lt V b h).2
    · have := hb.size; omega)
  obtain ⟨a0, a1, a2, a3⟩ := blk4L hq; have hs1 := lt_of_block hq
  have HWd : Hid (∀ d T' W', d.length + Wd.sizes ws ≤ M → Below w0.heap.size w0 W' → InvB w0 fn cap vb Inv d T' W' → Calls Try.prog 66 #[.slice sw ws.length cw, .func (.func 67) #[] #[.pointer (some ⟨vb, 0, none⟩)]] W' fun e w' => e = .returned (.tuple #[]) ∧ VEnd (InvB w0 fn cap vb Inv (d ++ bgWl (prWs ws))) T' W' w') := fun d T' W' h1 h2 h3 => by
    (have := eachWord_any (bigW_visit HV.out vb d (Wd.sizes ws) h1) [] T' ws _ W' (by simp) hwl h2 (by show InvB _ _ _ _ _ _ _ _; rw [bgWl, List.append_nil]; exact h3)); rw [List.nil_append] at this; exact this
  (have hmf : ∀ (fn : Fn) (first cap : Array Value) (w : World), (Instr.makeFunc fn first cap).run Try.prog w = .ok (.func fn first cap) w := fun _ _ _ _ => rfl); have HIW : Hid (InvB w0 fn cap vb Inv done T W) := hiW; have HMx : Hid (done.length + (Wd.sizes ws + 1) ≤ M) := hM'; by_cases hk : k = 1
  · subst hk
    (have HE : Hid (bgE (.mk 1 n ws ks) = [(n, true, ws.length)] ++ bgWl (prWs ws)) := by show _ = _; rw [bgE, if_pos rfl]); obtain ⟨T0, g1, g2, g3, g4, g5⟩ := hiW; (have HC : Hid (Calls Try.prog fn (#[.string n, .bool true, .int .i64 (ws.length : Nat)] ++ cap) W fun e w' => e = .returned (.tuple #[]) ∧ VEnd (Inv (done ++ [(n, true, ws.length)])) T0 W w') := V.call done T0 n true ws.length W (by omega) hn (hb.trans (hBW.mono hb.size)) g1); have HG : Hid (W.heap[vb]? = some (.cells #[.func (.func fn) #[] cap] 82 (0, 0)) ∧ ¬ T0 vb ∧ w0.heap.size ≤ vb ∧ ∀ b, T b ↔ T0 b ∨ b = vb) := ⟨g2, g3, g4, g5⟩; obtain ⟨b0, b1⟩ := blk1 g2; have hcf := V.ent; clear hr hb hi hn hwl hwm hBW hq g1 g2 g3 g4 g5 V hM hM'
    go_enter Try.func65, Try.ntmps65
    go_wp2_with fail; refine HC.out.mono ?_; rintro e w4 ⟨rfl, hv4⟩; obtain ⟨T4, hi4, hk4, ht4⟩ := InvB.next HG.out.1 HG.out.2.1 HG.out.2.2.1 HG.out.2.2.2 hv4; (have HI4 : Hid (InvB w0 fn cap vb Inv (done ++ [(n, true, ws.length)]) T4 w4 ∧ Kept (fun b => ¬ T b) W w4 ∧ ∀ b, T4 b → T b ∨ W.heap.size ≤ b) := ⟨hi4, hk4, ht4⟩); have HB4 : Hid (Below w0.heap.size w0 w4) := vis_below HB0.out (HIW.out.lt HV.out) hk4; (have q4 := (hk4.block w.heap.size hs1 (fun h => by have := (HT.out _ h).2; omega)).trans HQ.out); clear a0 a1 a2 a3 hv4 hi4 hk4 ht4 b0 b1; obtain ⟨a0, a1, a2, a3⟩ := blk4L q4; clear q4
    go_wp2_with (first
      | (go_at_call 66
         (refine (HWd.out _ T4 _ (by have := HMx.out; rw [List.length_append, List.length_singleton]; omega) HB4.out HI4.out.1).mono ?_); rintro e w5 ⟨rfl, hv5⟩; (have HF : Hid (VEnd (InvB w0 fn cap vb Inv (done ++ bgE (.mk 1 n ws ks))) T w w5) := VEnd.pre HBW.out (VEnd.trans HI4.out.2.1 HI4.out.2.2 (by rw [HE.out, ← List.append_assoc]; exact hv5)))
         clear hv5)
      | fail)
    go_end0
    exact ⟨rfl, HF.out⟩
  · have hkJ : (k == 1) = false := by simpa using hk
    (have HE : Hid (bgE (.mk k n ws ks) = bgWl (prWs ws)) := by show _ = _; rw [bgE, if_neg hk, List.nil_append]); clear hr hb hi hn hwl hwm hBW hq V hM hM' hiW hk
    go_enter Try.func65, Try.ntmps65
    go_wp2_with (first
      | (go_at_call 66
         (refine (HWd.out _ T _ (by have := HMx.out; omega) HB0.out HIW.out).mono ?_); rintro e w5 ⟨rfl, hv5⟩; (have HF : Hid (VEnd (InvB w0 fn cap vb Inv (done ++ bgE (.mk k n ws ks))) T w w5) := VEnd.pre HBW.out (by rw [HE.out]; exact hv5))
         clear hv5)
      | fail)
    go_end0
    exact ⟨rfl, HF.out⟩
theorem bigE_visit (V : VisN w0 fn cap M Inv) (vb : Nat) : VisE w0 65 #[.pointer (some ⟨vb, 0, none⟩)] M (fun d => InvB w0 fn cap vb Inv (bgEl d)) where
  lt := fun h => InvB.lt V h
  stay := fun h hk => InvB.stay V h hk
  ent := fun v u w => bigE_in _ w
  call := fun done T x bd v ad cp w hl hbd hrep hk hn hb hi => by
    refine (bigE_any V vb (bgEl done) T x v _ w (by
      have h1 := bgEl_len done; obtain ⟨k, n, ws, ks⟩ := x; rw [Ex.size] at hl; show _ + (Wd.sizes ws + 1) ≤ M
      omega) hrep hb hi).mono ?_
    rintro e w' ⟨rfl, hv⟩; (refine ⟨rfl, VEnd.imp hv fun T' h => ?_⟩); show InvB _ _ _ _ _ _ _ _; rw [bgEl_app, bgEl, bgEl, List.append_nil]; exact h
theorem InvB.fin {vb : Nat} {d : List BgN} {T : Nat → Prop} {w W w5 : World} (hBW : Below w.heap.size w W) (hvb : w.heap.size ≤ vb) (hv : VEnd (InvB w0 fn cap vb Inv d) (fun b => T b ∨ b = vb) W w5) : VEnd (Inv d) T w w5 := by
  obtain ⟨T5, ⟨T6, i6, -, g3, -, g5⟩, hk5, ht5⟩ := hv; have hs := hBW.size; (refine ⟨T6, i6, ?_, fun b hb => ?_⟩)
  · refine ⟨hk5.os.trans hBW.os, hk5.tape.trans hBW.tape, hk5.output.trans hBW.output, Nat.le_trans hBW.size hk5.size, fun b hb hn => ?_⟩
    (rw [hk5.block b (by omega) (fun h => h.elim hn (fun e => by omega)), hBW.block b hb])
  · rcases ht5 b ((g5 b).2 (Or.inl hb)) with (h | h) | h
    · exact Or.inl h
    · exact Or.inr (by omega)
    · exact Or.inr (by omega)
set_option maxHeartbeats 4000000 in
theorem eachBig_any (hM : M ≤ 100000) (V : VisN w0 fn cap M Inv) (T : Nat → Prop) (x : Ex) (v : Value) (w : World) (hs : x.size ≤ M) (hrep : ERp w0 x v) (hb : Below w0.heap.size w0 w) (hi : Inv [] T w) :
    Calls Try.prog 39 #[v, .func (.func fn) #[] cap] w fun e w' => e = .returned (.tuple #[]) ∧ VEnd (Inv (bgEl (prE [] x))) T w w' := by
  have hT := V.lt hi; obtain ⟨W1, hW1⟩ : ∃ W, W = w.alloc (.cells #[v] 29 (0, 0)) := ⟨_, rfl⟩; obtain ⟨k, n, ws, ks⟩ := x; obtain ⟨sw, cw, sk, ck, rfl, -⟩ := ERp.def.1 hrep; obtain ⟨W, hWe⟩ : ∃ W, (w.alloc (.cells #[.int .i64 k, .string n, .slice sw ws.length cw, .slice sk ks.length ck] 29 (0, 0))).alloc (.cells #[.func (.func fn) #[] cap] 82 (0, 0)) = W := ⟨_, rfl⟩; (have hBW : Below w.heap.size w W := by rw [← hWe]; exact below_more (below_more (Below.refl _ _) _) _); (have hq : W.heap[w.heap.size]? = some (.cells #[.int .i64 k, .string n, .slice sw ws.length cw, .slice sk ks.length ck] 29 (0, 0)) := by rw [← hWe]; exact alloc_keep (blk_new _ _) _)
  have hq2 : W.heap[w.heap.size + 1]? = some (.cells #[.func (.func fn) #[] cap] 82 (0, 0)) := by
    have := blk_new (w.alloc (.cells #[.int .i64 k, .string n, .slice sw ws.length cw, .slice sk ks.length ck] 29 (0, 0))) (.cells #[.func (.func fn) #[] cap] 82 (0, 0)); rw [← hWe]; simpa using this
  have hiW : Inv [] T W := V.stay hi (kept_of_below hBW fun b _ h => by
    rcases h with h | h
    · exact (hT b h).2
    · have := hb.size; omega)
  have HE : Hid (Calls Try.prog 41 #[.agg #[.int .i64 k, .string n, .slice sw ws.length cw, .slice sk ks.length ck], .func (.func 65) #[] #[.pointer (some ⟨w.heap.size + 1, 0, none⟩)]] W fun e w' => e = .returned (.tuple #[]) ∧ VEnd (InvB w0 fn cap (w.heap.size + 1) Inv (bgEl (prE [] (.mk k n ws ks)))) (fun b => T b ∨ b = w.heap.size + 1) W w') :=
    eachE_any hM (bigE_visit V (w.heap.size + 1)) _ (.mk k n ws ks) _ W hs hrep (hb.trans (hBW.mono hb.size)) ⟨T, hiW, hq2, fun h => by have := (hT _ h).2; omega, by have := hb.size; omega, fun b => Iff.rfl⟩
  have HBW : Hid (Below w.heap.size w W) := hBW; have HT : Hid (∀ b, T b → w0.heap.size ≤ b ∧ b < w.heap.size) := hT; (have hmf : ∀ (fn : Fn) (first cap : Array Value) (w : World), (Instr.makeFunc fn first cap).run Try.prog w = .ok (.func fn first cap) w := fun _ _ _ _ => rfl); obtain ⟨a0, a1, a2, a3⟩ := blk4L hq; have hs1 := lt_of_block hq; clear hrep hb hi hs hBW hq hq2 hiW hT hW1 V
  go_enter Try.func39, Try.ntmps39
  go_wp2_with (first
    | (go_at_call 41
       refine HE.out.mono ?_; rintro e w5 ⟨rfl, hv5⟩; (have HF : Hid (VEnd (Inv (bgEl (prE [] (.mk k n ws ks)))) T w w5) := InvB.fin HBW.out (by omega) hv5)
       clear hv5)
    | fail)
  go_end0
  exact ⟨rfl, HF.out⟩
end
end Go.Proofs.Ytblodnpfckflaak
/- Walks: hasMeanings, hasValues. -/
namespace Go.Proofs.Ytblodnpfckflaak
open Go.RowKit Go.Sort Go.Maps Go.WideMaps

structure InvH (w0 : World) (V : VwD) (va : Vals) (bf bp bv c vb hb : Nat) (done : List BgN) (T : Nat → Prop) (w : World) : Prop where
  has : w.heap[hb]? = some (.cells #[.bool (done.all (okN V))] 4 (0, 0))
  view : w.heap[vb]? = some (.cells #[.int .i64 (V.n : Nat), .map (some bf), .map (some bp), .map (some bv)] 57 (0, 0))
  at' : VwA w0 V va bf bp bv c w
  own : ∀ b, T b ↔ b = hb ∨ b = vb ∨ b = bf ∨ b = bp ∨ b = bv
  gh : w0.heap.size ≤ hb
  gb : w0.heap.size ≤ vb
theorem InvH.ne {w0 : World} {V : VwD} {va : Vals} {bf bp bv c vb hb : Nat} {done : List BgN} {T : Nat → Prop} {w : World} (h : InvH w0 V va bf bp bv c vb hb done T w) : hb ≠ vb ∧ bf ≠ hb ∧ bp ≠ hb ∧ bv ≠ hb := by
  obtain ⟨m1, k1, g1, h1⟩ := h.at'.fn; obtain ⟨m2, k2, g2, h2⟩ := h.at'.pd; (refine ⟨fun e => ?_, fun e => g1.noCells _ _ _ (by rw [e]; exact h.has), fun e => g2.noCells _ _ _ (by rw [e]; exact h.has), fun e => h.at'.vl.noCells _ _ _ (by rw [e]; exact h.has)⟩); have h3 := h.has; rw [e, h.view] at h3; simp at h3
theorem means1_in (cap : Array Value) (w : World) : (callFunc 40 cap).run Try.prog w = .ok (.enter 40 cap) w := by
  simp [go_sem]
theorem means_visit (w0 : World) (V : VwD) (va : Vals) (bf bp bv c vb hb M : Nat) : VisN w0 40 #[.pointer (some ⟨vb, 0, none⟩), .pointer (some ⟨hb, 0, none⟩)] M (InvH w0 V va bf bp bv c vb hb) where
  lt := fun h b hb => by
    obtain ⟨m1, k1, g1, h1⟩ := h.at'.fn; obtain ⟨m2, k2, g2, h2⟩ := h.at'.pd
    rcases (h.own b).1 hb with rfl | rfl | rfl | rfl | rfl
    · exact ⟨h.gh, lt_of_block h.has⟩
    · exact ⟨h.gb, lt_of_block h.view⟩
    · exact ⟨h.at'.gf, g1.lt⟩
    · exact ⟨h.at'.gp, g2.lt⟩
    · exact ⟨h.at'.gv, h.at'.vl.lt⟩
  stay := fun {done T w w'} h hk => by
    (have hb : ∀ b, b < w.heap.size → T b → w'.heap[b]? = w.heap[b]? := fun b h1 h2 => hk.block b h1 (Or.inl h2)); obtain ⟨m1, k1, g1, h1⟩ := h.at'.fn; obtain ⟨m2, k2, g2, h2⟩ := h.at'.pd; refine ⟨(hb _ (lt_of_block h.has) ((h.own _).2 (Or.inl rfl))).trans h.has, (hb _ (lt_of_block h.view) ((h.own _).2 (Or.inr (Or.inl rfl)))).trans h.view, ?_, h.own, h.gh, h.gb⟩; (exact ⟨h.at'.below.trans (hk.below h.at'.below.size fun b hb => Or.inr hb), ⟨m1, k1, g1.same (hb _ g1.lt ((h.own _).2 (by simp))), h1⟩, ⟨m2, k2, g2.same (hb _ g2.lt ((h.own _).2 (by simp))), h2⟩, h.at'.vl.same (hb _ h.at'.vl.lt ((h.own _).2 (by simp))), h.at'.gf, h.at'.gp, h.at'.gv, h.at'.fv, h.at'.pv⟩)
  ent := fun u v x w => means1_in _ w
  call := fun done T nm p l w hl hn hb hi => by
    refine (means1_any V va w0 w bf bp bv c vb _ nm hn p l _ hi.at' hi.view hi.has).mono ?_; rintro e w' ⟨rfl, h1, h2⟩; obtain ⟨n1, n2, n3, n4⟩ := hi.ne; obtain ⟨m1, k1, g1, h3⟩ := hi.at'.fn; obtain ⟨m2, k2, g2, h4⟩ := hi.at'.pd; have hg := hi.gh; (refine ⟨rfl, T, ⟨?_, (h2.block _ (lt_of_block hi.view) n1.symm).trans hi.view, ?_, hi.own, hi.gh, hi.gb⟩, h2.mono fun b _ hb e => hb ((hi.own b).2 (Or.inl e)), fun b h => Or.inl h⟩)
    · rw [List.all_append]
      simpa using h1
    · exact ⟨hi.at'.below.trans (h2.below hi.at'.below.size fun b hb e => by omega), ⟨m1, k1, g1.same (h2.block _ g1.lt n2), h3⟩, ⟨m2, k2, g2.same (h2.block _ g2.lt n3), h4⟩, hi.at'.vl.same (h2.block _ hi.at'.vl.lt n4), hi.at'.gf, hi.at'.gp, hi.at'.gv, hi.at'.fv, hi.at'.pv⟩
set_option maxRecDepth 10000 in
set_option maxHeartbeats 4000000 in
theorem hasMeanings_any (V : VwD) (va : Vals) (w0 w : World) (bf bp bv c : Nat) (x : Ex) (v : Value) (hs : x.size ≤ 100000) (hrep : ERp w0 x v) (hA : VwA w0 V va bf bp bv c w) :
    Calls Try.prog 21 #[.agg #[.int .i64 (V.n : Nat), .map (some bf), .map (some bp), .map (some bv)], v] w fun e w' => e = .returned (.bool ((bgEl (prE [] x)).all (okN V))) ∧ VwA w0 V va bf bp bv c w' ∧ Kept (fun b => b ≠ bf ∧ b ≠ bp ∧ b ≠ bv) w w' := by
  obtain ⟨k, n, ws, ks⟩ := x; obtain ⟨sw, cw, sk, ck, rfl, -⟩ := ERp.def.1 hrep; obtain ⟨W, hWe⟩ : ∃ W, ((w.alloc (.cells #[.int .i64 (V.n : Nat), .map (some bf), .map (some bp), .map (some bv)] 57 (0, 0))).alloc (.cells #[.int .i64 k, .string n, .slice sw ws.length cw, .slice sk ks.length ck] 29 (0, 0))).alloc (.cells #[.bool true] 4 (0, 0)) = W := ⟨_, rfl⟩; (have hBW : Below w.heap.size w W := by rw [← hWe]; exact below_more (below_more (below_more (Below.refl _ _) _) _) _); obtain ⟨p1, p2, p3⟩ := blk_threeM w (.cells #[.int .i64 (V.n : Nat), .map (some bf), .map (some bp), .map (some bv)] 57 (0, 0)) (.cells #[.int .i64 k, .string n, .slice sw ws.length cw, .slice sk ks.length ck] 29 (0, 0)) (.cells #[.bool true] 4 (0, 0)); rw [hWe] at p1 p2 p3; have hAW := hA.up hBW; have hsz := hA.below.size; (have hT : ∀ b, (b = w.heap.size + 1 + 1 ∨ b = w.heap.size ∨ b = bf ∨ b = bp ∨ b = bv) ↔ b = w.heap.size + 1 + 1 ∨ b = w.heap.size ∨ b = bf ∨ b = bp ∨ b = bv := fun _ => Iff.rfl); (have hEB := eachBig_any (M := 100000) (Nat.le_refl _) (means_visit w0 V va bf bp bv c w.heap.size (w.heap.size + 1 + 1) 100000) (fun b => b = w.heap.size + 1 + 1 ∨ b = w.heap.size ∨ b = bf ∨ b = bp ∨ b = bv) (.mk k n ws ks) _ W hs hrep hAW.below ⟨p3, p1, hAW, hT, by omega, by omega⟩); have HE : Hid (Calls Try.prog 39 _ W _) := hEB; (have hmf : ∀ (fn : Fn) (first cap : Array Value) (w : World), (Instr.makeFunc fn first cap).run Try.prog w = .ok (.func fn first cap) w := fun _ _ _ _ => rfl); have HBW : Hid (Below w.heap.size w W) := hBW; obtain ⟨b0, b1, b2, b3⟩ := blk4L p2; have hs1 := lt_of_block p2; clear hs hrep hA hBW p1 p2 p3 hAW hsz hT hEB
  go_enter Try.func21, Try.ntmps21
  go_wp2_with (first
    | (go_at_call 39
       refine HE.out.mono ?_; rintro e w5 ⟨rfl, T5, hi5, hk5, -⟩
       have HK : Hid (VwA w0 V va bf bp bv c w5 ∧ Kept (fun b => b ≠ bf ∧ b ≠ bp ∧ b ≠ bv) w w5) := ⟨hi5.at', ⟨hk5.os.trans HBW.out.os, hk5.tape.trans HBW.out.tape, hk5.output.trans HBW.out.output, Nat.le_trans HBW.out.size hk5.size, fun b hb hn => by
         rw [hk5.block b (Nat.lt_of_lt_of_le hb HBW.out.size) (fun h => by
           rcases h with rfl | rfl | h | h | h
           · omega
           · omega
           · exact hn.1 h
           · exact hn.2.1 h
           · exact hn.2.2 h), HBW.out.block b hb]⟩⟩
       obtain ⟨c0, c1⟩ := blk1 hi5.has
       clear hi5 hk5)
    | fail)
  go_ret; exact ⟨rfl, HK.out.1, HK.out.2⟩
set_option maxRecDepth 10000 in
set_option maxHeartbeats 4000000 in
theorem hasValues_any (V : VwD) (va : Vals) (w0 w : World) (bf bp bv c : Nat) (l : List (List UInt8)) (u : Value) (hl : SL w u l) (hlen : ∀ t ∈ l, t.length ≤ maxLen) (hA : VwA w0 V va bf bp bv c w) :
    Calls Try.prog 22 #[.agg #[.int .i64 (V.n : Nat), .map (some bf), .map (some bp), .map (some bv)], u] w fun e w' => e = .returned (.bool (l.all fun t => (va t).isSome)) ∧ Below w.heap.size w w' := by
  have HL : Hid (SL w u l) := hl; obtain ⟨ad, cp, rfl, h1, h2, h3⟩ := hl; obtain ⟨W, hWe⟩ : ∃ W, w.alloc (.cells #[.int .i64 (V.n : Nat), .map (some bf), .map (some bp), .map (some bv)] 57 (0, 0)) = W := ⟨_, rfl⟩; (have hBW : Below w.heap.size w W := by rw [← hWe]; exact below_more (Below.refl _ _) _); (have hq : W.heap[w.heap.size]? = some (.cells #[.int .i64 (V.n : Nat), .map (some bf), .map (some bp), .map (some bv)] 57 (0, 0)) := by rw [← hWe]; exact blk_new _ _); have HBW : Hid (Below w.heap.size w W) := hBW; have hAW := hA.up hBW
  have HLk : Hid (∀ t, t.length ≤ maxLen → (Instr.lookup 55 (.map (some bv)) (.string ⟨t.toArray⟩) true).run Try.prog W = .ok (.tuple #[.int .i64 (vz va t : Nat), .bool (va t).isSome]) W) := fun t ht => by
    have h9 := hAW.vl.lookOk (k := t) ht Try.underlying55 zeroInt 0
    have h8 : ((fun s => (va s).map fun x => Value.int .i64 (x : Nat)) t).getD (.int .i64 0) = .int .i64 (vz va t : Nat) := by
      unfold vz; show ((va t).map _).getD _ = _
      cases va t <;> rfl
    have h7 : ((fun s => (va s).map fun x => Value.int .i64 (x : Nat)) t).isSome = (va t).isSome := by
      show ((va t).map _).isSome = _
      cases va t <;> rfl
    rw [h8, h7] at h9; exact h9
  have HLn : Hid (∀ t ∈ l, t.length ≤ maxLen) := hlen; (have hlI : ((l.length : Nat) : Int) ≤ (cp : Int) := by omega); (have hcI : ((cp : Nat) : Int) ≤ 9223372036854775807 := by unfold maxLen at h2; omega); have HX : Hid (l ≠ [] → ∃ g off, ad = some ⟨g, off, none⟩ ∧ ∀ (j : Nat) (t : List UInt8), l[j]? = some t → w.cell? ⟨g, off + j, none⟩ = some (.string ⟨t.toArray⟩)) := h3; obtain ⟨a0, a1, a2, a3⟩ := blk4L hq; have hs1 := lt_of_block hq; clear hlen hA h1 h2 h3 hBW hq hAW
  go_enter Try.func22, Try.ntmps22
  go_wp2_with fail
  go_loopg [11, 6, 7, 8] l.length (fun g c t a b wr => ∃ i, i ≤ l.length ∧ g = l.length - i ∧ c = .int .i64 (i : Nat) ∧ Hid ((l.take i).all (fun t => (va t).isSome) = true) ∧ Hid (wr = W))
  case atStart => exact ⟨0, by omega, by omega, rfl, rfl, rfl⟩
  case round =>
    obtain ⟨i, hile, hg, rfl, HE, HW⟩ := hrel; have hw := HW.out; subst hw; have HG : Hid (gk = l.length - i) := hg; clear hg; by_cases hlt : i < l.length
    · obtain ⟨t, ht⟩ : ∃ x, l[i]? = some x := ⟨_, List.getElem?_eq_getElem hlt⟩
      (obtain ⟨g, off, rfl, hc⟩ := HX.out (fun e => by rw [e] at hlt; simp at hlt)); have g0 := (HBW.out.cell (lt_of_cell (hc i t ht))).trans (hc i t ht); (have hltI : (i : Int) < (l.length : Int) := by omega); have hlk := HLk.out t (HLn.out t (List.mem_of_getElem? ht))
      have HTk : Hid ((l.take (i + 1)).all (fun t => (va t).isSome) = (va t).isSome) := by
        show _ = _; rw [List.take_add_one, ht, List.all_append, HE.out]
        simp
      have HMx : Hid (t ∈ l ∧ i < l.length) := ⟨List.mem_of_getElem? ht, hlt⟩; clear hc ht hlt hile
      rcases hs : (va t).isSome with _ | _
      · rw [hs] at hlk
        have HF : Hid (l.all (fun t => (va t).isSome) = false) := by
          show _ = _; rw [List.all_eq_false]; (exact ⟨t, HMx.out.1, by rw [hs]; simp⟩)
        clear hs; go_wp2_with fail; go_ret; (exact ⟨ret_bool (by rw [HF.out]), HBW.out⟩)
      · rw [hs] at hlk HTk
        clear hs; go_wp2_with fail
        go_roundg (l.length - (i + 1))
        case measure => have := HG.out; have := HMx.out.2; omega
        case rel => exact ⟨i + 1, HMx.out.2, rfl, by go_num, HTk, rfl⟩
    · have hge : ¬ (i : Int) < (l.length : Int) := by omega
      have HF : Hid (l.all (fun t => (va t).isSome) = true) := by
        have := HE.out; (rw [List.take_of_length_le (by omega)] at this); exact this
      clear hlt hile HX; go_wp2_with fail; go_ret; (exact ⟨ret_bool (by rw [HF.out]), HBW.out⟩)
end Go.Proofs.Ytblodnpfckflaak
