/- Texts of one proof, one behind the other: KT6, KI1, KI2. -/
import Derived.Test.YtalnljnincnbdacGreatB16
import Derived.Test.YtalnljnincnbdacGreatB14
import Derived.Laws.Bits64
import Derived.Test.YtalnljnincnbdacGreatB09
/- Walks: a formula's number. -/
namespace Go.Proofs.YtalnljnincnbdacGreat
open Go.RowKit Go.Maps Go.WideMaps

theorem set_k0 {w : World} {b : Nat} {x0 x1 x2 x3 x4 : Value} {T : TypeId} (h : w.heap[b]? = some (.cells #[x0, x1, x2, x3, x4] T (0, 0))) (v : Value) : (w.setCell ⟨b, 3, none⟩ v).heap[b]? = some (.cells #[x0, x1, x2, v, x4] T (0, 0)) := by
  simp [World.setCell, Array.getElem?_modify, h]
theorem set_k1 {w : World} {b : Nat} {x0 x1 x2 x3 x4 : Value} {T : TypeId} (h : w.heap[b]? = some (.cells #[x0, x1, x2, x3, x4] T (0, 0))) (v : Value) : (w.setCell ⟨b, 4, none⟩ v).heap[b]? = some (.cells #[x0, x1, x2, x3, v] T (0, 0)) := by
  simp [World.setCell, Array.getElem?_modify, h]
theorem fsizes_take : ∀ (ks : List Fm) (i : Nat) (g : Fm), ks[i]? = some g → Fm.sizes (ks.take (i + 1)) = Fm.sizes (ks.take i) + g.size ∧ Fm.sizes (ks.take i) + g.size ≤ Fm.sizes ks
  | [], i, g, h => by simp at h
  | x :: ks, 0, g, h => by
    (have e : x = g := by simpa using h); subst e; (have e0 : Fm.sizes ([] : List Fm) = 0 := by rw [Fm.sizes]); rw [List.take_succ_cons, List.take_zero, List.take_zero, e0]; (have e1 : Fm.sizes [x] = x.size + 0 := by simp [Fm.sizes]); (have : Fm.sizes (x :: ks) = x.size + Fm.sizes ks := by rw [Fm.sizes])
    omega
  | x :: ks, i + 1, g, h => by
    (have := fsizes_take ks i g (by simpa using h)); (have e : Fm.sizes (x :: ks) = x.size + Fm.sizes ks := by rw [Fm.sizes]); rw [List.take_succ_cons, List.take_succ_cons, Fm.sizes, Fm.sizes]; omega
theorem kept_far {ok ok' : Nat → Prop} {a b c : World} (h : Kept ok a b) (k : Kept ok' b c) (hi : ∀ x, x < a.heap.size → ok x → ok' x) : Kept ok a c :=
  ⟨k.os.trans h.os, k.tape.trans h.tape, k.output.trans h.output, Nat.le_trans h.size k.size, fun x hx ho => (k.block x (Nat.lt_of_lt_of_le hx h.size) (hi x hx ho)).trans (h.block x hx ho)⟩
def Nums (Ph : Fm → Prop) (m : Nat) : Prop := ∀ (f : Fm) (v : Value) (w : World) (T : Nat → Prop) (bt : Nat) (ps : List PartM) (fs : List Fm), f.size < m → Ph f → Rep w (fun b => ¬ T b) f v → Tab Ph w T bt ps fs → fs.length + f.size ≤ 100000 →
  Calls Tryz.prog 91 #[.pointer (some ⟨bt, 0, none⟩), v] w fun e w' => ∃ n T' ps' gs, e = .returned (.int .i64 (n : Nat)) ∧ (fs ++ gs)[n]? = some f ∧ Tab Ph w' T' bt (ps ++ ps') (fs ++ gs) ∧ gs.length ≤ f.size ∧ (∀ b, T' b → T b ∨ w.heap.size ≤ b) ∧ Kept (fun b => ¬ T b) w w'

set_option maxRecDepth 10000 in
set_option maxHeartbeats 4000000 in
theorem num_step {Ph : Fm → Prop} (hc : Closed Ph) (m : Nat) (ih : Nums Ph m) : Nums Ph (m + 1) := by
  intro f v w T bt ps fs hm hf hrep htab hlen; obtain ⟨k, n, ks⟩ := f; (have hrep2 : Rep w (fun b => ¬ T b ∧ b < w.heap.size) (.mk k n ks) v := hrep.weak fun b h1 h2 => ⟨h2, h1⟩); obtain ⟨sl, cap, rfl, hx1, hx2, hx3, hx4⟩ := Rep.def.1 hrep2; (have HX : Hid (ks ≠ [] → ∃ b off, sl = some ⟨b, off, none⟩ ∧ (¬ T b ∧ b < w.heap.size) ∧ Reps w (fun b => ¬ T b ∧ b < w.heap.size) b off ks) := hx4); have HTab : Hid (Tab Ph w T bt ps fs) := htab; have HPh : Hid (Ph (.mk k n ks)) := hf; have hk2 : ks.length ≤ 2 := (hc.fine _ hf).small.2; have HC : Hid (Closed Ph) := hc; have HIH : Hid (Nums Ph m) := ih; have HMs : Hid ((Fm.mk k n ks).size < m + 1) := hm; have HLn : Hid (fs.length + (Fm.mk k n ks).size ≤ 100000) := hlen; (have hkI : (ks.length : Int) ≤ 2 := by omega); (have hkc : (ks.length : Int) ≤ (cap : Int) := by omega); clear hx4 hrep hrep2 htab hf hc ih hm hlen
  go_enter Tryz.func91, Tryz.ntmps91
  go_wp2_with fail; have B0 : Below w.heap.size w ((w.alloc (.cells #[.int .i64 k, .string n, .slice sl ks.length cap] 29 (0, 0))).alloc (.cells #[.int .i64 k, .string n, .int .i64 (ks.length : Nat), .int .i64 0, .int .i64 0] 158 (0, 0))) := below_more (below_more (Below.refl _ w) _) _; have Q0 : ((w.alloc (.cells #[.int .i64 k, .string n, .slice sl ks.length cap] 29 (0, 0))).alloc (.cells #[.int .i64 k, .string n, .int .i64 (ks.length : Nat), .int .i64 0, .int .i64 0] 158 (0, 0))).heap[w.heap.size + 1]? = some (.cells #[.int .i64 k, .string n, .int .i64 (ks.length : Nat), .int .i64 0, .int .i64 0] 158 (0, 0)) := blk_two w _ _; (have Z0 : ((w.alloc (.cells #[.int .i64 k, .string n, .slice sl ks.length cap] 29 (0, 0))).alloc (.cells #[.int .i64 k, .string n, .int .i64 (ks.length : Nat), .int .i64 0, .int .i64 0] 158 (0, 0))).heap.size = w.heap.size + 2 := by simp); have HB0 : Hid (Below w.heap.size w ((w.alloc (.cells #[.int .i64 k, .string n, .slice sl ks.length cap] 29 (0, 0))).alloc (.cells #[.int .i64 k, .string n, .int .i64 (ks.length : Nat), .int .i64 0, .int .i64 0] 158 (0, 0)))) := B0; have HQ0 : Hid (((w.alloc (.cells #[.int .i64 k, .string n, .slice sl ks.length cap] 29 (0, 0))).alloc (.cells #[.int .i64 k, .string n, .int .i64 (ks.length : Nat), .int .i64 0, .int .i64 0] 158 (0, 0))).heap[w.heap.size + 1]? = some (.cells #[.int .i64 k, .string n, .int .i64 (ks.length : Nat), .int .i64 0, .int .i64 0] 158 (0, 0))) := Q0; have HZ0 : Hid (((w.alloc (.cells #[.int .i64 k, .string n, .slice sl ks.length cap] 29 (0, 0))).alloc (.cells #[.int .i64 k, .string n, .int .i64 (ks.length : Nat), .int .i64 0, .int .i64 0] 158 (0, 0))).heap.size = w.heap.size + 2) := Z0; clear B0 Q0 Z0; generalize (w.alloc (.cells #[.int .i64 k, .string n, .slice sl ks.length cap] 29 (0, 0))).alloc (.cells #[.int .i64 k, .string n, .int .i64 (ks.length : Nat), .int .i64 0, .int .i64 0] 158 (0, 0)) = W at *; have HT0 : Hid (Tab Ph W T bt ps fs) := HTab.out.up HB0.out
  go_loopg [21] ks.length (fun g c wr => ∃ i js T' ps' gs, i ≤ ks.length ∧ g = ks.length - i ∧ c = .int .i64 (i : Nat) ∧ js.length = i ∧ Hid (NumsAre (fs ++ gs) js (ks.take i)) ∧ Hid (Tab Ph wr T' bt (ps ++ ps') (fs ++ gs)) ∧ Hid (gs.length ≤ Fm.sizes (ks.take i)) ∧ Hid (∀ b, T' b → T b ∨ w.heap.size + 2 ≤ b) ∧ Hid (Kept (fun b => ¬ T b) w wr) ∧ Hid (w.heap.size + 2 ≤ wr.heap.size) ∧ Hid (wr.heap[w.heap.size + 1]? = some (.cells #[.int .i64 k, .string n, .int .i64 (ks.length : Nat), .int .i64 ((js.getD 0 0 : Nat) : Int), .int .i64 ((js.getD 1 0 : Nat) : Int)] 158 (0, 0))))
  case atStart =>
    (refine ⟨0, [], T, [], [], by omega, by omega, rfl, rfl, ⟨(fun j hj => by cases hj), rfl⟩, by rw [List.append_nil, List.append_nil]; exact HT0.out, Nat.zero_le _, fun b h => Or.inl h, kept_of_below HB0.out fun _ h _ => h, Nat.le_of_eq HZ0.out.symm, HQ0.out⟩)
  case round =>
    obtain ⟨i, js, T', ps', gs, hi, hg, rfl, hjl, HNu, HTa, HGl, HT', HKe, HSz, HQ⟩ := hrel; have HG : Hid (gk = ks.length - i) := hg; clear hg HT0 HQ0 HB0 HZ0
    have hTb : ¬ T' (w.heap.size + 1) := fun h => by
      rcases HT'.out _ h with h | h
      · have := HTab.out.old _ h
        omega
      · omega
    have HTb : Hid (¬ T' (w.heap.size + 1)) := hTb; clear hTb; by_cases hlt : i < ks.length
    · obtain ⟨⟨kk, kn, kks⟩, hkid⟩ : ∃ g, ks[i]? = some g := ⟨_, List.getElem?_eq_getElem hlt⟩
      (obtain ⟨b, off, rfl, hb, hrs⟩ := HX.out (fun e => by rw [e] at hlt; simp at hlt)); (have HRs : Hid (Reps wr (fun b => ¬ T b ∧ b < w.heap.size) b off ks) := hrs.kept hb (HKe.out.mono fun _ _ h => h.1)); obtain ⟨sk, ck, c0, c1, c2, hrk⟩ := HRs.out.at i kk kn kks hkid; (have HRk : Hid (Rep wr (fun b => ¬ T b ∧ b < w.heap.size) (.mk kk kn kks) _) := hrk); (have hltI : (i : Int) < (ks.length : Int) := by omega); (have hltc : (i : Int) < (cap : Int) := by omega); (have hi2 : (i : Int) < 2 := by omega); have zb := lt_of_cell c0; simp only at zb; clear hrs hrk hb HX; go_wp2_with fail; have hsz := fsizes_take ks i _ hkid; have HSk : Hid (Fm.sizes (ks.take (i + 1)) = Fm.sizes (ks.take i) + (Fm.mk kk kn kks).size) := hsz.1
      have hcall := HIH.out (.mk kk kn kks) _ (wr.alloc (.cells #[.int .i64 kk, .string kn, .slice sk kks.length ck] 29 (0, 0))) T' bt (ps ++ ps') (fs ++ gs) (by have := HMs.out; rw [Fm.size] at this; omega) (HC.out.kids _ _ _ HPh.out _ (List.mem_of_getElem? hkid))
        (HRk.out.move (ok' := fun b => ¬ T' b) fun b h1 h2 => ⟨Below.heap_alloc _ _ _ h1, fun h => by
          rcases HT'.out b h with h | h
          · exact h2.1 h
          · have := h2.2
            omega⟩) (HTa.out.up ((Below.refl _ wr).alloc (Nat.le_refl _) _)) (by
          have h1 := HLn.out; have h2 := HGl.out; rw [Fm.size] at h1; rw [List.length_append]
          omega)
      refine hcall.mono ?_; clear hcall; rintro e w2 ⟨j, T2, ps2, gs2, rfl, hj, htab2, hgl2, hT2, hke2⟩; have hsw : w.heap.size + 2 ≤ wr.heap.size := HSz.out; (have Q2 : Hid (w2.heap[w.heap.size + 1]? = some _) := (hke2.block (w.heap.size + 1) (by simp; omega) HTb.out).trans (alloc_keep HQ.out _))
      have hT2b : ∀ b, T2 b → T b ∨ w.heap.size + 2 ≤ b := fun b h => by
        rcases hT2 b h with h | h
        · exact HT'.out b h
        · right
          simp at h; omega
      have hT2n : ¬ T2 (w.heap.size + 1) := fun h => by
        rcases hT2b _ h with h | h
        · have := HTab.out.old _ h
          omega
        · omega
      have HK2 : Hid (Kept (fun b => ¬ T b) w w2) := kept_far (HKe.out.alloc _) hke2 fun b hb h h' => by
        rcases HT'.out b h' with h2 | h2
        · exact h h2
        · omega
      have HTa2 : Hid (Tab Ph w2 T2 bt (ps ++ ps' ++ ps2) (fs ++ gs ++ gs2)) := htab2; have HT2b : Hid (∀ b, T2 b → T b ∨ w.heap.size + 2 ≤ b) := hT2b; have HT2n : Hid (¬ T2 (w.heap.size + 1)) := hT2n; have HJ : Hid ((fs ++ gs ++ gs2)[j]? = some (.mk kk kn kks)) := hj; have HGl2 : Hid (gs2.length ≤ (Fm.mk kk kn kks).size) := hgl2
      have HS2 : Hid (wr.heap.size + 1 ≤ w2.heap.size) := by
        have := hke2.size; simp at this; exact this
      have HTk : Hid (ks.take (i + 1) = ks.take i ++ [.mk kk kn kks]) := by
        show _ = _; rw [List.take_add_one, hkid]; rfl
      clear hj htab2 hgl2 hT2 hke2 hT2b hT2n HTa HKe HT' HTb HIH HRs HRk c0 c1 c2 zb hsz hkid; obtain ⟨d0, d1, d2, d3, d4, z0, z1, z2, z3, z4⟩ := blk5 Q2.out; (have e01 : i = 0 ∨ i = 1 := by omega)
      rcases e01 with rfl | rfl
      · go_wp2_with fail
        go_roundg (ks.length - (0 + 1))
        case measure => have := HG.out; omega
        case rel =>
          have hs2 := HS2.out; (refine ⟨0 + 1, js ++ [j], T2, ps' ++ ps2, gs ++ gs2, by omega, rfl, by go_num, by rw [List.length_append, hjl]; rfl, ?_, ?_, ?_, HT2b.out, HK2.out.setCell (fun h => absurd h (by simp)) _, ?_, ?_⟩)
          · rw [← List.append_assoc, HTk.out]
            exact HNu.out.grow.snoc HJ.out
          · rw [← List.append_assoc, ← List.append_assoc]
            (exact HTa2.out.same (fun b hb _ => Below.heap_setCell _ _ _ _ (fun e => HT2n.out (by simp at e; rw [← e]; exact hb))) (by simp [World.setCell]))
          · show _ ≤ _
            rw [HSk.out, List.length_append]; have h1 := HGl.out; have h2 := HGl2.out; omega
          · show _ ≤ _
            simp [World.setCell]; omega
          · have hq := Q2.out
            obtain rfl : js = [] := List.length_eq_zero_iff.1 hjl; exact set_k0 hq _
      · go_wp2_with fail
        go_roundg (ks.length - (1 + 1))
        case measure => have := HG.out; omega
        case rel =>
          have hs2 := HS2.out; (refine ⟨1 + 1, js ++ [j], T2, ps' ++ ps2, gs ++ gs2, by omega, rfl, by go_num, by rw [List.length_append, hjl]; rfl, ?_, ?_, ?_, HT2b.out, HK2.out.setCell (fun h => absurd h (by simp)) _, ?_, ?_⟩)
          · rw [← List.append_assoc, HTk.out]
            exact HNu.out.grow.snoc HJ.out
          · rw [← List.append_assoc, ← List.append_assoc]
            (exact HTa2.out.same (fun b hb _ => Below.heap_setCell _ _ _ _ (fun e => HT2n.out (by simp at e; rw [← e]; exact hb))) (by simp [World.setCell]))
          · show _ ≤ _
            rw [HSk.out, List.length_append]; have h1 := HGl.out; have h2 := HGl2.out; omega
          · show _ ≤ _
            simp [World.setCell]; omega
          · have hq := Q2.out
            obtain ⟨j0, rfl⟩ : ∃ x, js = [x] := List.length_eq_one_iff.1 hjl; exact set_k1 hq _
    · have hge : ¬ (i : Int) < (ks.length : Int) := by omega
      (have hie : i = ks.length := by omega); subst hie; clear HG; rw [List.take_length] at HNu HGl; obtain ⟨x0, hx0⟩ : ∃ x, x = js.getD 0 0 := ⟨_, rfl⟩; obtain ⟨x1, hx1⟩ : ∃ x, x = js.getD 1 0 := ⟨_, rfl⟩; rw [← hx0, ← hx1] at HQ; obtain ⟨p, hpe⟩ : ∃ p : PartM, p = ⟨k, n, js⟩ := ⟨_, rfl⟩
      have hlf : (fs ++ gs).length ≤ 100000 := by
        have h1 := HLn.out; have h2 := HGl.out; rw [Fm.size] at h1; rw [List.length_append]; omega
      (have hsm := part_small (p := p) HC.out HPh.out (by rw [hpe]) (by rw [hpe]) (by rw [hpe]; exact HNu.out) hlf); obtain ⟨adP, cP, adN, cN, bm, h1, -, -, -, h5, -⟩ := HTa.out.tab; obtain ⟨nn, D, hmap, hnn, hh1, hh2⟩ := h5; (have hkv : (Value.agg #[.int .i64 k, .string n, .int .i64 (ks.length : Nat), .int .i64 (x0 : Nat), .int .i64 (x1 : Nat)]) = .agg ⟨partCells p⟩ := by rw [hpe, hx0, hx1]; unfold partCells PartM.k0 PartM.k1; rw [hjl])
      have hkey : keyOf Tryz.prog 158 (.agg #[.int .i64 k, .string n, .int .i64 (ks.length : Nat), .int .i64 (x0 : Nat), .int .i64 (x1 : Nat)]) = some (partKey p) := by
        rw [hkv]; (exact keyPart _ _ _ _ _ (WalkArith.wf_i64 (by have := hsm.1.kind; omega)) (WalkArith.wf_i64 (by have := hsm.1.two; omega)) (WalkArith.wf_i64 (by have := kid_small hsm.1; omega)) (WalkArith.wf_i64 (by have := kid_small hsm.1; omega)) hsm.1.name)
      obtain ⟨c, hcw, hat, hlk⟩ : ∃ c, (Lit.int .i64 c).wf = true ∧ D.atKey (partKey p) (.lit (.int .i64 0)) = .lit (.int .i64 c) ∧ ∀ x, (Instr.lookup 145 (.map (some bm)) (.agg #[.int .i64 k, .string n, .int .i64 (ks.length : Nat), .int .i64 (x0 : Nat), .int .i64 (x1 : Nat)]) true).run Tryz.prog (wr.drewN x) = .ok (.tuple #[.int .i64 c, .bool (Maps.has D (partKey p))]) (wr.drewN x) := by
        have look : ∀ x, ∃ c, (Instr.lookup 145 (.map (some bm)) (.agg #[.int .i64 k, .string n, .int .i64 (ks.length : Nat), .int .i64 (x0 : Nat), .int .i64 (x1 : Nat)]) true).run Tryz.prog (wr.drewN x) = .ok (.tuple #[.int .i64 c, .bool (Maps.has D (partKey p))]) (wr.drewN x) ∧ D.atKey (partKey p) (.lit (.int .i64 0)) = .lit (.int .i64 c) ∧ (Lit.int .i64 c).wf = true := fun x => by
          have hm : (wr.drewN x).ownsMap Tryz.prog 158 (plainElem Tryz.prog 3) bm nn D := hmap; (obtain ⟨v, pl, hrun, hv⟩ := hm.look_ok partLaw Tryz.underlying145 (zeroInt _) (plainElem_int Tryz.underlying3 (WalkArith.wf_i64 (by omega))) hkey); obtain ⟨c, rfl, hz, hw⟩ := plainElem_int_inv Tryz.underlying3 hv; (exact ⟨c, hrun, by injection hz, hw⟩)
        obtain ⟨c, -, hat, hcw⟩ := look 0; (refine ⟨c, hcw, hat, fun x => ?_⟩); obtain ⟨c', hrun, hat', -⟩ := look x; rw [hat] at hat'; (have : c = c' := by injection hat' with e; injection e); rw [this]; exact hrun
      have HSm : Hid (PartSmall p ∧ n.size ≤ 8) := hsm; have HKv : Hid ((Value.agg #[.int .i64 k, .string n, .int .i64 (ks.length : Nat), .int .i64 (x0 : Nat), .int .i64 (x1 : Nat)]) = .agg ⟨partCells p⟩) := hkv; have HPe : Hid (p = ⟨k, n, js⟩) := hpe; have HLf : Hid ((fs ++ gs).length ≤ 100000) := hlf; have hhas := hh1 p hsm.1; have HH2 : Hid (∀ p, p ∈ ps ++ ps' → ∃ i, (ps ++ ps')[i]? = some p ∧ ∀ z, D.atKey (partKey p) z = .lit (.int .i64 (i : Nat))) := hh2; have HAt : Hid (D.atKey (partKey p) (.lit (.int .i64 0)) = .lit (.int .i64 c)) := hat; obtain ⟨j0, j1, j2, -⟩ := blk3 h1; obtain ⟨c0, c1, c2, c3, c4, -⟩ := blk5 HQ.out; rw [hhas] at hlk; clear hx0 hx1 hh1 hh2 hmap hnn hhas hsm hkv hkey hpe hlf h1 hcw hat hjl hlt hi hge HX HIH; by_cases hin : p ∈ ps ++ ps'
      · rw [decide_eq_true hin] at hlk
        have HIn : Hid (p ∈ ps ++ ps') := hin; clear hin; go_wp2_with fail
        go_quiet (fail)
        go_wp2_with fail; go_ret; obtain ⟨i, hi, hz⟩ := HH2.out p HIn.out
        have hci : (c : Int) = (i : Nat) := by
          have h1 := (hz (.lit (.int .i64 0))).symm.trans HAt.out
          injection h1 with h2
          injection h2 with h3 h4
          exact h4.symm
        (have hfm : p.fm (fs ++ gs) = .mk k n ks := Tab.fm (by rw [HPe.out]) (by rw [HPe.out]) (by rw [HPe.out]; exact HNu.out)); (refine ⟨i, T', ps', gs, by rw [hci]; rfl, by rw [← hfm]; exact HTa.out.ok.found hi, HTa.out.same (fun _ _ _ => rfl) (Nat.le_refl _), ?_, fun b h => ?_, HKe.out.drewN _⟩)
        · have := HGl.out
          rw [Fm.size]; omega
        · rcases HT'.out b h with h | h
          · exact Or.inl h
          · exact Or.inr (by omega)
      · rw [decide_eq_false hin] at hlk
        have HIn : Hid (p ∉ ps ++ ps') := hin; clear hin; go_wp2_with fail
        go_quiet (fail)
        go_wp2_with fail; (have hfm : p.fm (fs ++ gs) = .mk k n ks := Tab.fm (by rw [HPe.out]) (by rw [HPe.out]) (by rw [HPe.out]; exact HNu.out)); have HFm : Hid (p.fm (fs ++ gs) = .mk k n ks) := hfm; have hlen2 := HTa.out.ok.len; (have hkl : ∀ j ∈ p.kids, j < (fs ++ gs).length := by rw [HPe.out]; exact HNu.out.1)
        have hcall := padd_any (wr.drewN nq) T' bt (ps ++ ps') ((fs ++ gs).map Fm.size) (HTa.out.tab.same fun _ _ _ => rfl) p HSm.out.1 HIn.out (by rw [hlen2]; exact hkl) (by rw [hlen2]; exact HLf.out) (fun m hm => by
          obtain ⟨g, hg, rfl⟩ := List.mem_map.1 hm; have := HC.out.small g (HTa.out.all g hg)
          omega) (by have := HSm.out.2; rw [HPe.out]; exact this)
        rw [← HKv.out, nodes_fm hkl] at hcall; refine hcall.mono ?_; clear hcall; rintro e w5 ⟨rfl, htab5, hke5⟩; have HTab5 : Hid (TabAt w5 _ bt (ps ++ ps' ++ [p]) ((fs ++ gs).map Fm.size ++ [(p.fm (fs ++ gs)).size])) := htab5; (have HKe5 : Hid (Kept (fun b => ¬ T' b) (wr.drewN nq) w5) := hke5); have HKl : Hid (∀ j ∈ p.kids, j < (fs ++ gs).length) := hkl; have HLe : Hid ((ps ++ ps').length = (fs ++ gs).length) := hlen2; clear htab5 hke5 hkl hlen2 hfm; go_wp2_with fail; go_ret; (refine ⟨(ps ++ ps').length, fun b => T' b ∨ (wr.heap.size ≤ b ∧ b < w5.heap.size), ps' ++ [p], gs ++ [p.fm (fs ++ gs)], by rw [List.length_append, Int.natCast_add]; rfl, ?_, ⟨?_, ?_, ?_, ?_⟩, ?_, ?_, ?_⟩)
        · rw [HLe.out, ← List.append_assoc, HFm.out]
          simp
        · have := HTab5.out
          rw [← List.append_assoc, ← List.append_assoc, List.map_append]; exact this
        · rw [← List.append_assoc, ← List.append_assoc]
          exact HTa.out.ok.snoc HKl.out HIn.out
        · intro g hg
          rw [← List.append_assoc] at hg
          rcases List.mem_append.1 hg with h | h
          · exact HTa.out.all g h
          · rw [List.mem_singleton.1 h, HFm.out]; exact HPh.out
        · intro b hb
          rcases hb with h | h
          · exact Nat.lt_of_lt_of_le (HTa.out.old b h) HKe5.out.size
          · exact h.2
        · have := HGl.out
          rw [Fm.size, List.length_append]; show _ + 1 ≤ _; omega
        · intro b hb
          have hsw : w.heap.size + 2 ≤ wr.heap.size := HSz.out
          rcases hb with h | h
          · rcases HT'.out b h with h | h
            · exact Or.inl h
            · exact Or.inr (by omega)
          · exact Or.inr (by omega)
        · exact kept_far (HKe.out.drewN nq) HKe5.out fun b hb h h' => by
            rcases HT'.out b h' with h2 | h2
            · exact h h2
            · omega
theorem nums_all {Ph : Fm → Prop} (hc : Closed Ph) : ∀ m, Nums Ph m
  | 0 => fun _ _ _ _ _ _ _ h => absurd h (Nat.not_lt_zero _)
  | m + 1 => num_step hc m (nums_all hc m)
/-- A formula's number: the table holds it from then on. -/
theorem number_any {Ph : Fm → Prop} (hc : Closed Ph) (f : Fm) (v : Value) (w : World) (T : Nat → Prop) (bt : Nat) (ps : List PartM) (fs : List Fm) (hf : Ph f) (hrep : Rep w (fun b => ¬ T b) f v) (htab : Tab Ph w T bt ps fs) (hl : fs.length + f.size ≤ 100000) :
    Calls Tryz.prog 91 #[.pointer (some ⟨bt, 0, none⟩), v] w fun e w' => ∃ n T' ps' gs, e = .returned (.int .i64 (n : Nat)) ∧ (fs ++ gs)[n]? = some f ∧ Tab Ph w' T' bt (ps ++ ps') (fs ++ gs) ∧ gs.length ≤ f.size ∧ (∀ b, T' b → T b ∨ w.heap.size ≤ b) ∧ Kept (fun b => ¬ T b) w w' :=
  nums_all hc (f.size + 1) f v w T bt ps fs (Nat.lt_succ_self _) hf hrep htab hl
end Go.Proofs.YtalnljnincnbdacGreat
/- Walks: items, their sides and parts. -/
namespace Go.Proofs.YtalnljnincnbdacGreat
open Go.RowKit

set_option maxHeartbeats 1000000 in
theorem atLeft_item (n : Nat) (hn : n ≤ 1000000) (w : World) : Calls Tryz.prog 90 #[.int .i64 (n : Nat)] w fun e w' => e = .returned (.int .i64 ((2 * n : Nat) : Int)) ∧ w' = w := by
  (have hnI : (n : Int) ≤ 1000000 := by omega)
  go_enter Tryz.func90, Tryz.ntmps90
  go_wp2_with fail; go_ret; (exact ⟨by rw [Int.natCast_mul]; rfl, rfl⟩)
set_option maxHeartbeats 1000000 in
theorem atRight_item (n : Nat) (hn : n ≤ 1000000) (w : World) : Calls Tryz.prog 92 #[.int .i64 (n : Nat)] w fun e w' => e = .returned (.int .i64 ((2 * n + 1 : Nat) : Int)) ∧ w' = w := by
  (have hnI : (n : Int) ≤ 1000000 := by omega)
  go_enter Tryz.func92, Tryz.ntmps92
  go_wp2_with fail; go_ret; (exact ⟨by rw [Int.natCast_add, Int.natCast_mul]; rfl, rfl⟩)
set_option maxHeartbeats 1000000 in
theorem part_item (i : Nat) (hn : i ≤ 3000000) (w : World) : Calls Tryz.prog 100 #[.int .i64 (i : Nat)] w fun e w' => e = .returned (.int .i64 ((i / 2 : Nat) : Int)) ∧ w' = w := by
  (have hnI : (i : Int) ≤ 3000000 := by omega)
  go_enter Tryz.func100, Tryz.ntmps100
  go_wp2_with fail; go_ret; exact ⟨rfl, rfl⟩
theorem itR_int (i : Nat) : (((i : Int) % 2) == 1) = itR i := by
  unfold itR; rw [Bool.eq_iff_iff]
  simp
  omega
set_option maxHeartbeats 1000000 in
theorem isRight_item (i : Nat) (hn : i ≤ 3000000) (w : World) : Calls Tryz.prog 101 #[.int .i64 (i : Nat)] w fun e w' => e = .returned (.bool (itR i)) ∧ w' = w := by
  (have hnI : (i : Int) ≤ 3000000 := by omega)
  go_enter Tryz.func101, Tryz.ntmps101
  go_wp2_with fail; go_ret; (exact ⟨by rw [← itR_int]; rfl, rfl⟩)
def acrossN (i : Nat) : Nat := if itR i then i - 1 else i + 1
theorem acrossN_eq (i : Nat) : i ^^^ 1 = acrossN i := by
  (have h1 : (i ^^^ 1) / 2 = i / 2 := by rw [Nat.xor_div_two]; simp)
  have h2 : (i ^^^ 1) % 2 = (i + 1) % 2 := by
    have := @Nat.xor_mod_two_eq_one i 1; omega
  unfold acrossN itR
  rcases Nat.mod_two_eq_zero_or_one i with h | h
  · rw [h]
    simp
    omega
  · rw [h]
    simp
    omega
theorem xor_int (i : Nat) (h : i ≤ 3000000) : bits .xor .i64 (i : Int) 1 = ((acrossN i : Nat) : Int) := by
  (have hx : i ^^^ 1 < 2 ^ 64 := Nat.xor_lt_two_pow (by omega) (by omega))
  have h1 : (BitVec.ofInt 64 (i : Int)).toNat = i := by
    (rw [BitVec.ofInt_natCast, BitVec.toNat_ofNat]; exact Nat.mod_eq_of_lt (by omega))
  have h2 : (BitVec.ofInt 64 ((1 : Nat) : Int)).toNat = 1 := by
    rw [BitVec.ofInt_natCast, BitVec.toNat_ofNat]
  show IntKind.i64.wrap ((BitVec.ofInt 64 (i : Int) ^^^ BitVec.ofInt 64 ((1 : Nat) : Int)).toNat : Int) = _; rw [BitVec.toNat_xor, h1, h2, IntKind.wrap_i64, acrossN_eq]; (have : acrossN i ≤ 3000001 := by unfold acrossN; split <;> omega); omega
set_option maxHeartbeats 1000000 in
theorem across_item (i : Nat) (hn : i ≤ 3000000) (w : World) : Calls Tryz.prog 170 #[.int .i64 (i : Nat)] w fun e w' => e = .returned (.int .i64 ((acrossN i : Nat) : Int)) ∧ w' = w := by
  (have hnI : (i : Int) ≤ 3000000 := by omega)
  go_enter Tryz.func170, Tryz.ntmps170
  go_wp2_with fail; go_ret; (exact ⟨by rw [← xor_int i hn]; rfl, rfl⟩)
end Go.Proofs.YtalnljnincnbdacGreat
/- Items that are being listed beside a table that grows. -/
namespace Go.Proofs.YtalnljnincnbdacGreat
open Go.RowKit

/-- Where a listing of items stands: the table has grown, the row is the listing's own. -/
structure ItSt (Ph : Fm → Prop) (w0 : World) (T : Nat → Prop) (bt : Nat) (ps : List PartM) (fs : List Fm) (wr : World) (ad : Option Addr) (cap : Nat) (its : List Nat) (T' : Nat → Prop) (ps' : List PartM) (gs : List Fm) : Prop where
  tab : Tab Ph wr T' bt (ps ++ ps') (fs ++ gs)
  row : wr.ownsRow w0.heap.size 82 1 (.slice ad its.length cap) its.length (its.map fun i => .int .i64 (i : Nat))
  far : ∀ b, (Value.slice ad its.length cap).ownBlock = some b → ¬ T' b
  grow : ∀ b, T' b → T b ∨ w0.heap.size ≤ b
  kept : Kept (fun b => ¬ T b) w0 wr
theorem ItSt.up {Ph : Fm → Prop} {w0 : World} {T : Nat → Prop} {bt : Nat} {ps : List PartM} {fs : List Fm} {wr wx : World} {ad : Option Addr} {cap : Nat} {its : List Nat} {T' : Nat → Prop} {ps' : List PartM} {gs : List Fm} (h : ItSt Ph w0 T bt ps fs wr ad cap its T' ps' gs) (hb : Below wr.heap.size wr wx) : ItSt Ph w0 T bt ps fs wx ad cap its T' ps' gs :=
  ⟨h.tab.up hb, owns_up h.row hb, h.far, h.grow, h.kept.trans (kept_of_below hb fun _ h _ => h)⟩
/-- One item more: a number is asked for, then its item is put behind the others. -/
theorem ItSt.step {Ph : Fm → Prop} {w0 : World} {T : Nat → Prop} {bt : Nat} {ps : List PartM} {fs : List Fm} {wr w2 w5 : World} {ad : Option Addr} {cap : Nat} {its : List Nat} {T' T2 : Nat → Prop} {ps' ps2 : List PartM} {gs gs2 : List Fm} {x g c5 : Nat} {o : Obj} (h : ItSt Ph w0 T bt ps fs wr ad cap its T' ps' gs)
    (ht2 : Tab Ph w2 T2 bt (ps ++ ps' ++ ps2) (fs ++ gs ++ gs2)) (hT2 : ∀ b, T2 b → T' b ∨ wr.heap.size ≤ b) (hk2 : Kept (fun b => ¬ T' b) wr w2)
    (hown5 : w5.ownsRow w0.heap.size 82 1 (.slice (some ⟨g, 0, none⟩) (its.length + 1) c5) (its.length + 1) ((its.map fun i => (.int .i64 (i : Nat) : Value)) ++ [.int .i64 (x : Nat)]))
    (hg5 : (w2.alloc o).grownBy w5 (Value.slice ad its.length cap).ownBlock) (hat : (Value.slice ad its.length cap).ownBlock = some g ∨ g = (w2.alloc o).heap.size) :
    ItSt Ph w0 T bt ps fs w5 (some ⟨g, 0, none⟩) c5 (its ++ [x]) T2 (ps' ++ ps2) (gs ++ gs2) := by
  have hlow := h.kept.size; have hsz := hk2.size
  have hnot : ∀ b, (Value.slice ad its.length cap).ownBlock = some b → ¬ T2 b := fun b hb h2 => by
    rcases hT2 b h2 with h3 | h3
    · exact h.far b hb h3
    · have := (h.row.lt b hb).2
      omega
  (have hblk : ∀ b, b < w2.heap.size → (Value.slice ad its.length cap).ownBlock ≠ some b → w5.heap[b]? = w2.heap[b]? := fun b hb hne => (hg5.block b (by simp; omega) (fun e => hne e.symm)).trans (Below.heap_alloc _ _ _ hb))
  have hs5 : w2.heap.size ≤ w5.heap.size := by
    have := hg5.size; simp at this; omega
  refine ⟨?_, ?_, ?_, ?_, ?_⟩
  · rw [← List.append_assoc, ← List.append_assoc]
    (exact ht2.same (fun b hb hl => hblk b hl fun e => hnot b e hb) hs5)
  · rw [List.length_append, List.map_append]
    exact hown5
  · intro b hb
    (have e : g = b := by simpa [Value.ownBlock] using hb); subst e
    rcases hat with h1 | h1
    · exact hnot g h1
    · intro h2
      have h3 := ht2.old g h2; simp at h1; omega
  · intro b hb
    rcases hT2 b hb with h1 | h1
    · exact h.grow b h1
    · exact Or.inr (by omega)
  · refine kept_far (kept_far h.kept hk2 fun b hb h1 h2 => ?_) (ok' := fun b => (Value.slice ad its.length cap).ownBlock ≠ some b) ⟨hg5.os, hg5.tape, hg5.output, hs5, fun b hb hne => hblk b hb hne⟩ fun b hb _ e => ?_
    · rcases h.grow b h2 with h3 | h3
      · exact h1 h3
      · omega
    · have := (h.row.lt b e).1
      omega
/-- What the items are. -/
def ItsL (fs : List Fm) (its : List Nat) (l : List Fm) : Prop := its.length = l.length ∧ ∀ (i : Nat) (f : Fm), l[i]? = some f → ∃ n : Nat, its[i]? = some (2 * n) ∧ fs[n]? = some f
def ItsR (fs : List Fm) (its : List Nat) (l : List Fm) : Prop := its.length = l.length ∧ ∀ (i : Nat) (f : Fm), l[i]? = some f → ∃ n : Nat, its[i]? = some (2 * n + 1) ∧ fs[n]? = some f
theorem ItsL.snoc {fs gs : List Fm} {its : List Nat} {l : List Fm} {f : Fm} {n : Nat} (h : ItsL fs its l) (hn : (fs ++ gs)[n]? = some f) : ItsL (fs ++ gs) (its ++ [2 * n]) (l ++ [f]) := by
  (refine ⟨by simp [h.1], fun i g hg => ?_⟩)
  rcases Nat.lt_or_ge i l.length with hi | hi
  · rw [List.getElem?_append_left hi] at hg
    obtain ⟨m, h1, h2⟩ := h.2 i g hg; (exact ⟨m, by rw [List.getElem?_append_left (by rw [h.1]; exact hi)]; exact h1, by rw [List.getElem?_append_left (List.getElem?_eq_some_iff.1 h2).1]; exact h2⟩)
  · rw [List.getElem?_append_right hi] at hg
    have e : i - l.length = 0 := by
      rcases Nat.eq_zero_or_pos (i - l.length) with h0 | h0
      · exact h0
      · rw [List.getElem?_eq_none (by simp; omega)] at hg; cases hg
    rw [e] at hg; simp at hg; subst hg; (exact ⟨n, by rw [List.getElem?_append_right (by rw [h.1]; exact hi), h.1, e]; rfl, hn⟩)
theorem ItsL.grow {fs gs : List Fm} {its : List Nat} {l : List Fm} (h : ItsL fs its l) : ItsL (fs ++ gs) its l := ⟨h.1, fun i f hf => by
  obtain ⟨n, h1, h2⟩ := h.2 i f hf
  exact ⟨n, h1, by rw [List.getElem?_append_left (List.getElem?_eq_some_iff.1 h2).1]; exact h2⟩⟩
theorem ItsR.snoc {fs gs : List Fm} {its : List Nat} {l : List Fm} {f : Fm} {n : Nat} (h : ItsR fs its l) (hn : (fs ++ gs)[n]? = some f) : ItsR (fs ++ gs) (its ++ [2 * n + 1]) (l ++ [f]) := by
  (refine ⟨by simp [h.1], fun i g hg => ?_⟩)
  rcases Nat.lt_or_ge i l.length with hi | hi
  · rw [List.getElem?_append_left hi] at hg
    obtain ⟨m, h1, h2⟩ := h.2 i g hg; (exact ⟨m, by rw [List.getElem?_append_left (by rw [h.1]; exact hi)]; exact h1, by rw [List.getElem?_append_left (List.getElem?_eq_some_iff.1 h2).1]; exact h2⟩)
  · rw [List.getElem?_append_right hi] at hg
    have e : i - l.length = 0 := by
      rcases Nat.eq_zero_or_pos (i - l.length) with h0 | h0
      · exact h0
      · rw [List.getElem?_eq_none (by simp; omega)] at hg; cases hg
    rw [e] at hg; simp at hg; subst hg; (exact ⟨n, by rw [List.getElem?_append_right (by rw [h.1]; exact hi), h.1, e]; rfl, hn⟩)
end Go.Proofs.YtalnljnincnbdacGreat
