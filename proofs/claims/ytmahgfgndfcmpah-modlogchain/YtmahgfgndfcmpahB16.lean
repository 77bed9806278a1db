/- Texts of one proof, one behind the other: KT6. -/
import Derived.Test.YtmahgfgndfcmpahB14
/- Walks: a formula's number. -/
namespace Go.Proofs.Ytmahgfgndfcmpah
open Go.RowKit Go.Maps Go.WideMaps

theorem set_k0 {w : World} {b : Nat} {x0 x1 x2 x3 x4 : Value} {T : TypeId} (h : w.heap[b]? = some (.cells #[x0, x1, x2, x3, x4] T (0, 0))) (v : Value) : (w.setCell ⟨b, 3, none⟩ v).heap[b]? = some (.cells #[x0, x1, x2, v, x4] T (0, 0)) := by
  simp [World.setCell, Array.getElem?_modify, h]
theorem set_k1 {w : World} {b : Nat} {x0 x1 x2 x3 x4 : Value} {T : TypeId} (h : w.heap[b]? = some (.cells #[x0, x1, x2, x3, x4] T (0, 0))) (v : Value) : (w.setCell ⟨b, 4, none⟩ v).heap[b]? = some (.cells #[x0, x1, x2, x3, v] T (0, 0)) := by
  simp [World.setCell, Array.getElem?_modify, h]
theorem fsizes_take : ∀ (ks : List Fm) (i : Nat) (g : Fm), ks[i]? = some g → Fm.sizes (ks.take (i + 1)) = Fm.sizes (ks.take i) + g.size ∧ Fm.sizes (ks.take i) + g.size ≤ Fm.sizes ks
  | [], i, g, h => by simp at h
  | x :: ks, 0, g, h => by
    (have e : x = g := by simpa using h); subst e; (have e0 : Fm.sizes ([] : List Fm) = 0 := by rw [Fm.sizes]); rw [List.take_succ_cons, List.take_zero, List.take_zero, e0]; (have e1 : Fm.sizes [x] = x.size + 0 := by simp [Fm.sizes]); (have : Fm.sizes (x :: ks) = x.size + Fm.sizes ks := by rw [Fm.sizes])
    omega
  | x :: ks, i + 1, g, h => by
    (have := fsizes_take ks i g (by simpa using h)); (have e : Fm.sizes (x :: ks) = x.size + Fm.sizes ks := by rw [Fm.sizes]); rw [List.take_succ_cons, List.take_succ_cons, Fm.sizes, Fm.sizes]; omega
theorem kept_far {ok ok' : Nat → Prop} {a b c : World} (h : Kept ok a b) (k : Kept ok' b c) (hi : ∀ x, x < a.heap.size → ok x → ok' x) : Kept ok a c :=
  ⟨k.os.trans h.os, k.tape.trans h.tape, k.output.trans h.output, Nat.le_trans h.size k.size, fun x hx ho => (k.block x (Nat.lt_of_lt_of_le hx h.size) (hi x hx ho)).trans (h.block x hx ho)⟩
def Nums (Ph : Fm → Prop) (m : Nat) : Prop := ∀ (f : Fm) (v : Value) (w : World) (T : Nat → Prop) (bt : Nat) (ps : List PartM) (fs : List Fm), f.size < m → Ph f → Rep w (fun b => ¬ T b) f v → Tab Ph w T bt ps fs → fs.length + f.size ≤ 100000 →
  Calls Try.prog 17 #[.pointer (some ⟨bt, 0, none⟩), v] w fun e w' => ∃ n T' ps' gs, e = .returned (.int .i64 (n : Nat)) ∧ (fs ++ gs)[n]? = some f ∧ Tab Ph w' T' bt (ps ++ ps') (fs ++ gs) ∧ gs.length ≤ f.size ∧ (∀ b, T' b → T b ∨ w.heap.size ≤ b) ∧ Kept (fun b => ¬ T b) w w'

set_option maxRecDepth 10000 in
set_option maxHeartbeats 4000000 in
theorem num_step {Ph : Fm → Prop} (hc : Closed Ph) (m : Nat) (ih : Nums Ph m) : Nums Ph (m + 1) := by
  intro f v w T bt ps fs hm hf hrep htab hlen; obtain ⟨k, n, ks⟩ := f; (have hrep2 : Rep w (fun b => ¬ T b ∧ b < w.heap.size) (.mk k n ks) v := hrep.weak fun b h1 h2 => ⟨h2, h1⟩); obtain ⟨sl, cap, rfl, hx1, hx2, hx3, hx4⟩ := Rep.def.1 hrep2; (have HX : Hid (ks ≠ [] → ∃ b off, sl = some ⟨b, off, none⟩ ∧ (¬ T b ∧ b < w.heap.size) ∧ Reps w (fun b => ¬ T b ∧ b < w.heap.size) b off ks) := hx4); have HTab : Hid (Tab Ph w T bt ps fs) := htab; have HPh : Hid (Ph (.mk k n ks)) := hf; have hk2 : ks.length ≤ 2 := (hc.fine _ hf).small.2; have HC : Hid (Closed Ph) := hc; have HIH : Hid (Nums Ph m) := ih; have HMs : Hid ((Fm.mk k n ks).size < m + 1) := hm; have HLn : Hid (fs.length + (Fm.mk k n ks).size ≤ 100000) := hlen; (have hkI : (ks.length : Int) ≤ 2 := by omega); (have hkc : (ks.length : Int) ≤ (cap : Int) := by omega); clear hx4 hrep hrep2 htab hf hc ih hm hlen
  go_enter Try.func17, Try.ntmps17
  go_wp2_with fail; have B0 : Below w.heap.size w ((w.alloc (.cells #[.int .i64 k, .string n, .slice sl ks.length cap] 24 (0, 0))).alloc (.cells #[.int .i64 k, .string n, .int .i64 (ks.length : Nat), .int .i64 0, .int .i64 0] 78 (0, 0))) := below_more (below_more (Below.refl _ w) _) _; have Q0 : ((w.alloc (.cells #[.int .i64 k, .string n, .slice sl ks.length cap] 24 (0, 0))).alloc (.cells #[.int .i64 k, .string n, .int .i64 (ks.length : Nat), .int .i64 0, .int .i64 0] 78 (0, 0))).heap[w.heap.size + 1]? = some (.cells #[.int .i64 k, .string n, .int .i64 (ks.length : Nat), .int .i64 0, .int .i64 0] 78 (0, 0)) := blk_two w _ _; (have Z0 : ((w.alloc (.cells #[.int .i64 k, .string n, .slice sl ks.length cap] 24 (0, 0))).alloc (.cells #[.int .i64 k, .string n, .int .i64 (ks.length : Nat), .int .i64 0, .int .i64 0] 78 (0, 0))).heap.size = w.heap.size + 2 := by simp); have HB0 : Hid (Below w.heap.size w ((w.alloc (.cells #[.int .i64 k, .string n, .slice sl ks.length cap] 24 (0, 0))).alloc (.cells #[.int .i64 k, .string n, .int .i64 (ks.length : Nat), .int .i64 0, .int .i64 0] 78 (0, 0)))) := B0; have HQ0 : Hid (((w.alloc (.cells #[.int .i64 k, .string n, .slice sl ks.length cap] 24 (0, 0))).alloc (.cells #[.int .i64 k, .string n, .int .i64 (ks.length : Nat), .int .i64 0, .int .i64 0] 78 (0, 0))).heap[w.heap.size + 1]? = some (.cells #[.int .i64 k, .string n, .int .i64 (ks.length : Nat), .int .i64 0, .int .i64 0] 78 (0, 0))) := Q0; have HZ0 : Hid (((w.alloc (.cells #[.int .i64 k, .string n, .slice sl ks.length cap] 24 (0, 0))).alloc (.cells #[.int .i64 k, .string n, .int .i64 (ks.length : Nat), .int .i64 0, .int .i64 0] 78 (0, 0))).heap.size = w.heap.size + 2) := Z0; clear B0 Q0 Z0; generalize (w.alloc (.cells #[.int .i64 k, .string n, .slice sl ks.length cap] 24 (0, 0))).alloc (.cells #[.int .i64 k, .string n, .int .i64 (ks.length : Nat), .int .i64 0, .int .i64 0] 78 (0, 0)) = W at *; have HT0 : Hid (Tab Ph W T bt ps fs) := HTab.out.up HB0.out
  go_loopg [19] ks.length (fun g c wr => ∃ i js T' ps' gs, i ≤ ks.length ∧ g = ks.length - i ∧ c = .int .i64 (i : Nat) ∧ js.length = i ∧ Hid (NumsAre (fs ++ gs) js (ks.take i)) ∧ Hid (Tab Ph wr T' bt (ps ++ ps') (fs ++ gs)) ∧ Hid (gs.length ≤ Fm.sizes (ks.take i)) ∧ Hid (∀ b, T' b → T b ∨ w.heap.size + 2 ≤ b) ∧ Hid (Kept (fun b => ¬ T b) w wr) ∧ Hid (w.heap.size + 2 ≤ wr.heap.size) ∧ Hid (wr.heap[w.heap.size + 1]? = some (.cells #[.int .i64 k, .string n, .int .i64 (ks.length : Nat), .int .i64 ((js.getD 0 0 : Nat) : Int), .int .i64 ((js.getD 1 0 : Nat) : Int)] 78 (0, 0))))
  case atStart =>
    (refine ⟨0, [], T, [], [], by omega, by omega, rfl, rfl, ⟨(fun j hj => by cases hj), rfl⟩, by rw [List.append_nil, List.append_nil]; exact HT0.out, Nat.zero_le _, fun b h => Or.inl h, kept_of_below HB0.out fun _ h _ => h, Nat.le_of_eq HZ0.out.symm, HQ0.out⟩)
  case round =>
    obtain ⟨i, js, T', ps', gs, hi, hg, rfl, hjl, HNu, HTa, HGl, HT', HKe, HSz, HQ⟩ := hrel; have HG : Hid (gk = ks.length - i) := hg; clear hg HT0 HQ0 HB0 HZ0
    have hTb : ¬ T' (w.heap.size + 1) := fun h => by
      rcases HT'.out _ h with h | h
      · have := HTab.out.old _ h
        omega
      · omega
    have HTb : Hid (¬ T' (w.heap.size + 1)) := hTb; clear hTb; by_cases hlt : i < ks.length
    · obtain ⟨⟨kk, kn, kks⟩, hkid⟩ : ∃ g, ks[i]? = some g := ⟨_, List.getElem?_eq_getElem hlt⟩
      (obtain ⟨b, off, rfl, hb, hrs⟩ := HX.out (fun e => by rw [e] at hlt; simp at hlt)); (have HRs : Hid (Reps wr (fun b => ¬ T b ∧ b < w.heap.size) b off ks) := hrs.kept hb (HKe.out.mono fun _ _ h => h.1)); obtain ⟨sk, ck, c0, c1, c2, hrk⟩ := HRs.out.at i kk kn kks hkid; (have HRk : Hid (Rep wr (fun b => ¬ T b ∧ b < w.heap.size) (.mk kk kn kks) _) := hrk); (have hltI : (i : Int) < (ks.length : Int) := by omega); (have hltc : (i : Int) < (cap : Int) := by omega); (have hi2 : (i : Int) < 2 := by omega); have zb := lt_of_cell c0; simp only at zb; clear hrs hrk hb HX; go_wp2_with fail; have hsz := fsizes_take ks i _ hkid; have HSk : Hid (Fm.sizes (ks.take (i + 1)) = Fm.sizes (ks.take i) + (Fm.mk kk kn kks).size) := hsz.1
      have hcall := HIH.out (.mk kk kn kks) _ (wr.alloc (.cells #[.int .i64 kk, .string kn, .slice sk kks.length ck] 24 (0, 0))) T' bt (ps ++ ps') (fs ++ gs) (by have := HMs.out; rw [Fm.size] at this; omega) (HC.out.kids _ _ _ HPh.out _ (List.mem_of_getElem? hkid))
        (HRk.out.move (ok' := fun b => ¬ T' b) fun b h1 h2 => ⟨Below.heap_alloc _ _ _ h1, fun h => by
          rcases HT'.out b h with h | h
          · exact h2.1 h
          · have := h2.2
            omega⟩) (HTa.out.up ((Below.refl _ wr).alloc (Nat.le_refl _) _)) (by
          have h1 := HLn.out; have h2 := HGl.out; rw [Fm.size] at h1; rw [List.length_append]
          omega)
      refine hcall.mono ?_; clear hcall; rintro e w2 ⟨j, T2, ps2, gs2, rfl, hj, htab2, hgl2, hT2, hke2⟩; have hsw : w.heap.size + 2 ≤ wr.heap.size := HSz.out; (have Q2 : Hid (w2.heap[w.heap.size + 1]? = some _) := (hke2.block (w.heap.size + 1) (by simp; omega) HTb.out).trans (alloc_keep HQ.out _))
      have hT2b : ∀ b, T2 b → T b ∨ w.heap.size + 2 ≤ b := fun b h => by
        rcases hT2 b h with h | h
        · exact HT'.out b h
        · right
          simp at h; omega
      have hT2n : ¬ T2 (w.heap.size + 1) := fun h => by
        rcases hT2b _ h with h | h
        · have := HTab.out.old _ h
          omega
        · omega
      have HK2 : Hid (Kept (fun b => ¬ T b) w w2) := kept_far (HKe.out.alloc _) hke2 fun b hb h h' => by
        rcases HT'.out b h' with h2 | h2
        · exact h h2
        · omega
      have HTa2 : Hid (Tab Ph w2 T2 bt (ps ++ ps' ++ ps2) (fs ++ gs ++ gs2)) := htab2; have HT2b : Hid (∀ b, T2 b → T b ∨ w.heap.size + 2 ≤ b) := hT2b; have HT2n : Hid (¬ T2 (w.heap.size + 1)) := hT2n; have HJ : Hid ((fs ++ gs ++ gs2)[j]? = some (.mk kk kn kks)) := hj; have HGl2 : Hid (gs2.length ≤ (Fm.mk kk kn kks).size) := hgl2
      have HS2 : Hid (wr.heap.size + 1 ≤ w2.heap.size) := by
        have := hke2.size; simp at this; exact this
      have HTk : Hid (ks.take (i + 1) = ks.take i ++ [.mk kk kn kks]) := by
        show _ = _; rw [List.take_add_one, hkid]; rfl
      clear hj htab2 hgl2 hT2 hke2 hT2b hT2n HTa HKe HT' HTb HIH HRs HRk c0 c1 c2 zb hsz hkid; obtain ⟨d0, d1, d2, d3, d4, z0, z1, z2, z3, z4⟩ := blk5 Q2.out; (have e01 : i = 0 ∨ i = 1 := by omega)
      rcases e01 with rfl | rfl
      · go_wp2_with fail
        go_roundg (ks.length - (0 + 1))
        case measure => have := HG.out; omega
        case rel =>
          have hs2 := HS2.out; (refine ⟨0 + 1, js ++ [j], T2, ps' ++ ps2, gs ++ gs2, by omega, rfl, by go_num, by rw [List.length_append, hjl]; rfl, ?_, ?_, ?_, HT2b.out, HK2.out.setCell (fun h => absurd h (by simp)) _, ?_, ?_⟩)
          · rw [← List.append_assoc, HTk.out]
            exact HNu.out.grow.snoc HJ.out
          · rw [← List.append_assoc, ← List.append_assoc]
            (exact HTa2.out.same (fun b hb _ => Below.heap_setCell _ _ _ _ (fun e => HT2n.out (by simp at e; rw [← e]; exact hb))) (by simp [World.setCell]))
          · show _ ≤ _
            rw [HSk.out, List.length_append]; have h1 := HGl.out; have h2 := HGl2.out; omega
          · show _ ≤ _
            simp [World.setCell]; omega
          · have hq := Q2.out
            obtain rfl : js = [] := List.length_eq_zero_iff.1 hjl; exact set_k0 hq _
      · go_wp2_with fail
        go_roundg (ks.length - (1 + 1))
        case measure => have := HG.out; omega
        case rel =>
          have hs2 := HS2.out; (refine ⟨1 + 1, js ++ [j], T2, ps' ++ ps2, gs ++ gs2, by omega, rfl, by go_num, by rw [List.length_append, hjl]; rfl, ?_, ?_, ?_, HT2b.out, HK2.out.setCell (fun h => absurd h (by simp)) _, ?_, ?_⟩)
          · rw [← List.append_assoc, HTk.out]
            exact HNu.out.grow.snoc HJ.out
          · rw [← List.append_assoc, ← List.append_assoc]
            (exact HTa2.out.same (fun b hb _ => Below.heap_setCell _ _ _ _ (fun e => HT2n.out (by simp at e; rw [← e]; exact hb))) (by simp [World.setCell]))
          · show _ ≤ _
            rw [HSk.out, List.length_append]; have h1 := HGl.out; have h2 := HGl2.out; omega
          · show _ ≤ _
            simp [World.setCell]; omega
          · have hq := Q2.out
            obtain ⟨j0, rfl⟩ : ∃ x, js = [x] := List.length_eq_one_iff.1 hjl; exact set_k1 hq _
    · have hge : ¬ (i : Int) < (ks.length : Int) := by omega
      (have hie : i = ks.length := by omega); subst hie; clear HG; rw [List.take_length] at HNu HGl
      have hlf : (fs ++ gs).length ≤ 100000 := by
        have h1 := HLn.out; have h2 := HGl.out; rw [Fm.size] at h1; rw [List.length_append]; omega
      (have hcall := fun W (hb : Below wr.heap.size wr W) => numOf_any HC.out k n ks js W T' bt (ps ++ ps') (fs ++ gs) HPh.out hjl HNu.out (HTa.out.up hb) hlf); obtain ⟨x0, hx0⟩ : ∃ x, x = js.getD 0 0 := ⟨_, rfl⟩; obtain ⟨x1, hx1⟩ : ∃ x, x = js.getD 1 0 := ⟨_, rfl⟩; rw [← hx0, ← hx1] at HQ hcall; have HCall : Hid (∀ W, Below wr.heap.size wr W → Calls Try.prog 33 _ W _) := hcall; obtain ⟨c0, c1, c2, c3, c4, -⟩ := blk5 HQ.out; clear hx0 hx1 hcall hlf hjl hlt hi HX HIH; go_wp2_with fail; refine (HCall.out _ (Below.refl _ _)).mono ?_; rintro e w5 ⟨m5, T5, ps5, gs5, rfl, h1, h2, h3, h4, h5⟩; have H1 : Hid ((fs ++ gs ++ gs5)[m5]? = some (.mk k n ks)) := h1; have H2 : Hid (Tab Ph w5 T5 bt (ps ++ ps' ++ ps5) (fs ++ gs ++ gs5)) := h2; have H3 : Hid (gs5.length ≤ 1) := h3; have H4 : Hid (∀ b, T5 b → T' b ∨ wr.heap.size ≤ b) := h4; (have H5 : Hid (Kept (fun b => ¬ T' b) wr w5) := h5); clear h1 h2 h3 h4 h5 c0 c1 c2 c3 c4 HCall; go_wp2_with fail; go_ret; (refine ⟨m5, T5, ps' ++ ps5, gs ++ gs5, rfl, by rw [← List.append_assoc]; exact H1.out, by rw [← List.append_assoc, ← List.append_assoc]; exact H2.out, ?_, fun b hb => ?_, ?_⟩)
      · have h6 := HGl.out
        have h7 := H3.out; rw [Fm.size, List.length_append]; omega
      · have hsw : w.heap.size + 2 ≤ wr.heap.size := HSz.out
        rcases H4.out b hb with h | h
        · rcases HT'.out b h with h | h
          · exact Or.inl h
          · exact Or.inr (by omega)
        · exact Or.inr (by omega)
      · exact kept_far HKe.out H5.out fun b hb h h' => by
          rcases HT'.out b h' with h2 | h2
          · exact h h2
          · omega
theorem nums_all {Ph : Fm → Prop} (hc : Closed Ph) : ∀ m, Nums Ph m
  | 0 => fun _ _ _ _ _ _ _ h => absurd h (Nat.not_lt_zero _)
  | m + 1 => num_step hc m (nums_all hc m)
/-- A formula's number: the table holds it from then on. -/
theorem number_any {Ph : Fm → Prop} (hc : Closed Ph) (f : Fm) (v : Value) (w : World) (T : Nat → Prop) (bt : Nat) (ps : List PartM) (fs : List Fm) (hf : Ph f) (hrep : Rep w (fun b => ¬ T b) f v) (htab : Tab Ph w T bt ps fs) (hl : fs.length + f.size ≤ 100000) :
    Calls Try.prog 17 #[.pointer (some ⟨bt, 0, none⟩), v] w fun e w' => ∃ n T' ps' gs, e = .returned (.int .i64 (n : Nat)) ∧ (fs ++ gs)[n]? = some f ∧ Tab Ph w' T' bt (ps ++ ps') (fs ++ gs) ∧ gs.length ≤ f.size ∧ (∀ b, T' b → T b ∨ w.heap.size ≤ b) ∧ Kept (fun b => ¬ T b) w w' :=
  nums_all hc (f.size + 1) f v w T bt ps fs (Nat.lt_succ_self _) hf hrep htab hl
end Go.Proofs.Ytmahgfgndfcmpah
