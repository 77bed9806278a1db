/- Texts of one proof, one behind the other: SN1. -/
import Derived.Test.YtblodnpfckflaakB26
/- Walks: eachBigName; hasMeanings. -/
namespace Go.Proofs.Ytblodnpfckflaak
open Go.RowKit Go.Sort Go.Maps Go.WideMaps

section
variable {w0 : World} {fn : Nat} {cap : Array Value} {M : Nat} {Inv : List BgN → (Nat → Prop) → World → Prop}
set_option maxRecDepth 10000 in
set_option maxHeartbeats 4000000 in
/-- The closure that looks at an expression. -/
theorem bigE_any (V : VisN w0 fn cap M Inv) (vb : Nat) (done : List BgN) (T : Nat → Prop) (x : Ex) (v u : Value) (w : World) (hM : done.length + (Wd.sizes (exWs x) + 1) ≤ M) (hr : ERp w0 x v) (hb : Below w0.heap.size w0 w) (hi : InvB w0 fn cap vb Inv done T w) :
    Calls Try.prog 65 #[v, u, .pointer (some ⟨vb, 0, none⟩)] w fun e w' => e = .returned (.tuple #[]) ∧ VEnd (InvB w0 fn cap vb Inv (done ++ bgE x)) T w w' := by
  have HV : Hid (VisN w0 fn cap M Inv) := V; obtain ⟨k, n, ws, ks⟩ := x; obtain ⟨sw, cw, sk, ck, rfl, hn, hwl, -⟩ := ERp.def.1 hr; have hM' : done.length + (Wd.sizes ws + 1) ≤ M := hM
  have hwm : ws.length ≤ maxLen := by
    obtain ⟨sl', cap', e, g1, g2, -⟩ := hwl; omega
  (have hlI : ((ws.length : Nat) : Int) ≤ 9223372036854775807 := by unfold maxLen at hwm; omega); obtain ⟨W, hWe⟩ : ∃ W, w.alloc (.cells #[.int .i64 k, .string n, .slice sw ws.length cw, .slice sk ks.length ck] 29 (0, 0)) = W := ⟨_, rfl⟩; (have hBW : Below w.heap.size w W := by rw [← hWe]; exact below_more (Below.refl _ _) _); (have hq : W.heap[w.heap.size]? = some (.cells #[.int .i64 k, .string n, .slice sw ws.length cw, .slice sk ks.length ck] 29 (0, 0)) := by rw [← hWe]; exact blk_new _ _); have HQ : Hid (W.heap[w.heap.size]? = some (.cells #[.int .i64 k, .string n, .slice sw ws.length cw, .slice sk ks.length ck] 29 (0, 0))) := hq; have HBW : Hid (Below w.heap.size w W) := hBW; have HT : Hid (∀ b, T b → w0.heap.size ≤ b ∧ b < w.heap.size) := hi.lt V; have HB0 : Hid (Below w0.heap.size w0 W) := hb.trans (hBW.mono hb.size)
  have hiW : InvB w0 fn cap vb Inv done T W := hi.stay V (kept_of_below hBW fun b _ h => by
    rcases h with h | h
    · exact (hi.lt V b h).2
    · have := hb.size; omega)
  obtain ⟨a0, a1, a2, a3⟩ := blk4L hq; have hs1 := lt_of_block hq
  have HWd : Hid (∀ d T' W', d.length + Wd.sizes ws ≤ M → Below w0.heap.size w0 W' → InvB w0 fn cap vb Inv d T' W' → Calls Try.prog 66 #[.slice sw ws.length cw, .func (.func 67) #[] #[.pointer (some ⟨vb, 0, none⟩)]] W' fun e w' => e = .returned (.tuple #[]) ∧ VEnd (InvB w0 fn cap vb Inv (d ++ bgWl (prWs ws))) T' W' w') := fun d T' W' h1 h2 h3 => by
    (have := eachWord_any (bigW_visit HV.out vb d (Wd.sizes ws) h1) [] T' ws _ W' (by simp) hwl h2 (by show InvB _ _ _ _ _ _ _ _; rw [bgWl, List.append_nil]; exact h3)); rw [List.nil_append] at this; exact this
  (have hmf : ∀ (fn : Fn) (first cap : Array Value) (w : World), (Instr.makeFunc fn first cap).run Try.prog w = .ok (.func fn first cap) w := fun _ _ _ _ => rfl); have HIW : Hid (InvB w0 fn cap vb Inv done T W) := hiW; have HMx : Hid (done.length + (Wd.sizes ws + 1) ≤ M) := hM'; by_cases hk : k = 1
  · subst hk
    (have HE : Hid (bgE (.mk 1 n ws ks) = [(n, true, ws.length)] ++ bgWl (prWs ws)) := by show _ = _; rw [bgE, if_pos rfl]); obtain ⟨T0, g1, g2, g3, g4, g5⟩ := hiW; (have HC : Hid (Calls Try.prog fn (#[.string n, .bool true, .int .i64 (ws.length : Nat)] ++ cap) W fun e w' => e = .returned (.tuple #[]) ∧ VEnd (Inv (done ++ [(n, true, ws.length)])) T0 W w') := V.call done T0 n true ws.length W (by omega) hn (hb.trans (hBW.mono hb.size)) g1); have HG : Hid (W.heap[vb]? = some (.cells #[.func (.func fn) #[] cap] 82 (0, 0)) ∧ ¬ T0 vb ∧ w0.heap.size ≤ vb ∧ ∀ b, T b ↔ T0 b ∨ b = vb) := ⟨g2, g3, g4, g5⟩; obtain ⟨b0, b1⟩ := blk1 g2; have hcf := V.ent; clear hr hb hi hn hwl hwm hBW hq g1 g2 g3 g4 g5 V hM hM'
    go_enter Try.func65, Try.ntmps65
    go_wp2_with fail; refine HC.out.mono ?_; rintro e w4 ⟨rfl, hv4⟩; obtain ⟨T4, hi4, hk4, ht4⟩ := InvB.next HG.out.1 HG.out.2.1 HG.out.2.2.1 HG.out.2.2.2 hv4; (have HI4 : Hid (InvB w0 fn cap vb Inv (done ++ [(n, true, ws.length)]) T4 w4 ∧ Kept (fun b => ¬ T b) W w4 ∧ ∀ b, T4 b → T b ∨ W.heap.size ≤ b) := ⟨hi4, hk4, ht4⟩); have HB4 : Hid (Below w0.heap.size w0 w4) := vis_below HB0.out (HIW.out.lt HV.out) hk4; (have q4 := (hk4.block w.heap.size hs1 (fun h => by have := (HT.out _ h).2; omega)).trans HQ.out); clear a0 a1 a2 a3 hv4 hi4 hk4 ht4 b0 b1; obtain ⟨a0, a1, a2, a3⟩ := blk4L q4; clear q4
    go_wp2_with (first
      | (go_at_call 66
         (refine (HWd.out _ T4 _ (by have := HMx.out; rw [List.length_append, List.length_singleton]; omega) HB4.out HI4.out.1).mono ?_); rintro e w5 ⟨rfl, hv5⟩; (have HF : Hid (VEnd (InvB w0 fn cap vb Inv (done ++ bgE (.mk 1 n ws ks))) T w w5) := VEnd.pre HBW.out (VEnd.trans HI4.out.2.1 HI4.out.2.2 (by rw [HE.out, ← List.append_assoc]; exact hv5)))
         clear hv5)
      | fail)
    go_end0
    exact ⟨rfl, HF.out⟩
  · have hkJ : (k == 1) = false := by simpa using hk
    (have HE : Hid (bgE (.mk k n ws ks) = bgWl (prWs ws)) := by show _ = _; rw [bgE, if_neg hk, List.nil_append]); clear hr hb hi hn hwl hwm hBW hq V hM hM' hiW hk
    go_enter Try.func65, Try.ntmps65
    go_wp2_with (first
      | (go_at_call 66
         (refine (HWd.out _ T _ (by have := HMx.out; omega) HB0.out HIW.out).mono ?_); rintro e w5 ⟨rfl, hv5⟩; (have HF : Hid (VEnd (InvB w0 fn cap vb Inv (done ++ bgE (.mk k n ws ks))) T w w5) := VEnd.pre HBW.out (by rw [HE.out]; exact hv5))
         clear hv5)
      | fail)
    go_end0
    exact ⟨rfl, HF.out⟩
theorem bigE_visit (V : VisN w0 fn cap M Inv) (vb : Nat) : VisE w0 65 #[.pointer (some ⟨vb, 0, none⟩)] M (fun d => InvB w0 fn cap vb Inv (bgEl d)) where
  lt := fun h => InvB.lt V h
  stay := fun h hk => InvB.stay V h hk
  ent := fun v u w => bigE_in _ w
  call := fun done T x bd v ad cp w hl hbd hrep hk hn hb hi => by
    refine (bigE_any V vb (bgEl done) T x v _ w (by
      have h1 := bgEl_len done; obtain ⟨k, n, ws, ks⟩ := x; rw [Ex.size] at hl; show _ + (Wd.sizes ws + 1) ≤ M
      omega) hrep hb hi).mono ?_
    rintro e w' ⟨rfl, hv⟩; (refine ⟨rfl, VEnd.imp hv fun T' h => ?_⟩); show InvB _ _ _ _ _ _ _ _; rw [bgEl_app, bgEl, bgEl, List.append_nil]; exact h
theorem InvB.fin {vb : Nat} {d : List BgN} {T : Nat → Prop} {w W w5 : World} (hBW : Below w.heap.size w W) (hvb : w.heap.size ≤ vb) (hv : VEnd (InvB w0 fn cap vb Inv d) (fun b => T b ∨ b = vb) W w5) : VEnd (Inv d) T w w5 := by
  obtain ⟨T5, ⟨T6, i6, -, g3, -, g5⟩, hk5, ht5⟩ := hv; have hs := hBW.size; (refine ⟨T6, i6, ?_, fun b hb => ?_⟩)
  · refine ⟨hk5.os.trans hBW.os, hk5.tape.trans hBW.tape, hk5.output.trans hBW.output, Nat.le_trans hBW.size hk5.size, fun b hb hn => ?_⟩
    (rw [hk5.block b (by omega) (fun h => h.elim hn (fun e => by omega)), hBW.block b hb])
  · rcases ht5 b ((g5 b).2 (Or.inl hb)) with (h | h) | h
    · exact Or.inl h
    · exact Or.inr (by omega)
    · exact Or.inr (by omega)
set_option maxHeartbeats 4000000 in
theorem eachBig_any (hM : M ≤ 100000) (V : VisN w0 fn cap M Inv) (T : Nat → Prop) (x : Ex) (v : Value) (w : World) (hs : x.size ≤ M) (hrep : ERp w0 x v) (hb : Below w0.heap.size w0 w) (hi : Inv [] T w) :
    Calls Try.prog 39 #[v, .func (.func fn) #[] cap] w fun e w' => e = .returned (.tuple #[]) ∧ VEnd (Inv (bgEl (prE [] x))) T w w' := by
  have hT := V.lt hi; obtain ⟨W1, hW1⟩ : ∃ W, W = w.alloc (.cells #[v] 29 (0, 0)) := ⟨_, rfl⟩; obtain ⟨k, n, ws, ks⟩ := x; obtain ⟨sw, cw, sk, ck, rfl, -⟩ := ERp.def.1 hrep; obtain ⟨W, hWe⟩ : ∃ W, (w.alloc (.cells #[.int .i64 k, .string n, .slice sw ws.length cw, .slice sk ks.length ck] 29 (0, 0))).alloc (.cells #[.func (.func fn) #[] cap] 82 (0, 0)) = W := ⟨_, rfl⟩; (have hBW : Below w.heap.size w W := by rw [← hWe]; exact below_more (below_more (Below.refl _ _) _) _); (have hq : W.heap[w.heap.size]? = some (.cells #[.int .i64 k, .string n, .slice sw ws.length cw, .slice sk ks.length ck] 29 (0, 0)) := by rw [← hWe]; exact alloc_keep (blk_new _ _) _)
  have hq2 : W.heap[w.heap.size + 1]? = some (.cells #[.func (.func fn) #[] cap] 82 (0, 0)) := by
    have := blk_new (w.alloc (.cells #[.int .i64 k, .string n, .slice sw ws.length cw, .slice sk ks.length ck] 29 (0, 0))) (.cells #[.func (.func fn) #[] cap] 82 (0, 0)); rw [← hWe]; simpa using this
  have hiW : Inv [] T W := V.stay hi (kept_of_below hBW fun b _ h => by
    rcases h with h | h
    · exact (hT b h).2
    · have := hb.size; omega)
  have HE : Hid (Calls Try.prog 41 #[.agg #[.int .i64 k, .string n, .slice sw ws.length cw, .slice sk ks.length ck], .func (.func 65) #[] #[.pointer (some ⟨w.heap.size + 1, 0, none⟩)]] W fun e w' => e = .returned (.tuple #[]) ∧ VEnd (InvB w0 fn cap (w.heap.size + 1) Inv (bgEl (prE [] (.mk k n ws ks)))) (fun b => T b ∨ b = w.heap.size + 1) W w') :=
    eachE_any hM (bigE_visit V (w.heap.size + 1)) _ (.mk k n ws ks) _ W hs hrep (hb.trans (hBW.mono hb.size)) ⟨T, hiW, hq2, fun h => by have := (hT _ h).2; omega, by have := hb.size; omega, fun b => Iff.rfl⟩
  have HBW : Hid (Below w.heap.size w W) := hBW; have HT : Hid (∀ b, T b → w0.heap.size ≤ b ∧ b < w.heap.size) := hT; (have hmf : ∀ (fn : Fn) (first cap : Array Value) (w : World), (Instr.makeFunc fn first cap).run Try.prog w = .ok (.func fn first cap) w := fun _ _ _ _ => rfl); obtain ⟨a0, a1, a2, a3⟩ := blk4L hq; have hs1 := lt_of_block hq; clear hrep hb hi hs hBW hq hq2 hiW hT hW1 V
  go_enter Try.func39, Try.ntmps39
  go_wp2_with (first
    | (go_at_call 41
       refine HE.out.mono ?_; rintro e w5 ⟨rfl, hv5⟩; (have HF : Hid (VEnd (Inv (bgEl (prE [] (.mk k n ws ks)))) T w w5) := InvB.fin HBW.out (by omega) hv5)
       clear hv5)
    | fail)
  go_end0
  exact ⟨rfl, HF.out⟩
end
end Go.Proofs.Ytblodnpfckflaak
