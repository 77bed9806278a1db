/- Texts of one proof, one behind the other: KT5, KT6N, KT6. -/
import Derived.Test.YtmahgfgndfcmpahB18
import Derived.Test.YtmahgfgndfcmpahB04
import Derived.Test.YtmahgfgndfcmpahB10
/- A formula's number: what the table says, plain. -/
namespace Go.Proofs.Ytmahgfgndfcmpah
open Go.RowKit Go.Maps Go.WideMaps

theorem sizes_sum : ∀ fs : List Fm, Fm.sizes fs = (fs.map Fm.size).sum
  | [] => by rw [Fm.sizes]; rfl
  | f :: fs => by rw [Fm.sizes, sizes_sum fs]; simp
theorem nodes_fm {fs : List Fm} {p : PartM} (hk : ∀ j ∈ p.kids, j < fs.length) : nodesOf (fs.map Fm.size) p.kids = (p.fm fs).size := by
  unfold nodesOf PartM.fm; rw [Fm.size, sizes_sum, List.map_map, Nat.add_comm]
  congr 2
  (refine List.map_congr_left fun j hj => ?_); have hlt := hk j hj; rw [List.getD_eq_getElem?_getD, List.getElem?_map, List.getElem?_eq_getElem hlt]; show fs[j].size = (fs.getD j zeroF).size; rw [List.getD_eq_getElem?_getD, List.getElem?_eq_getElem hlt]; rfl
/-- Formulas that a table may be asked for. -/
structure Closed (Ph : Fm → Prop) : Prop where
  fine : ∀ f, Ph f → Fine f
  small : ∀ f, Ph f → f.size ≤ 1000
  kids : ∀ k n ks, Ph (.mk k n ks) → ∀ g ∈ ks, Ph g
/-- The table of these formulas. -/
structure Tab (Ph : Fm → Prop) (w : World) (T : Nat → Prop) (bt : Nat) (ps : List PartM) (fs : List Fm) : Prop where
  tab : TabAt w T bt ps (fs.map Fm.size)
  ok : TabOk ps fs
  all : ∀ g ∈ fs, Ph g
  old : ∀ b, T b → b < w.heap.size
theorem Tab.same {Ph : Fm → Prop} {w w' : World} {T : Nat → Prop} {bt : Nat} {ps : List PartM} {fs : List Fm} (h : Tab Ph w T bt ps fs) (hk : ∀ b, T b → b < w.heap.size → w'.heap[b]? = w.heap[b]?) (hs : w.heap.size ≤ w'.heap.size) : Tab Ph w' T bt ps fs :=
  ⟨h.tab.same hk, h.ok, h.all, fun b hb => Nat.lt_of_lt_of_le (h.old b hb) hs⟩
theorem Tab.up {Ph : Fm → Prop} {w w' : World} {T : Nat → Prop} {bt : Nat} {ps : List PartM} {fs : List Fm} (h : Tab Ph w T bt ps fs) (hb : Below w.heap.size w w') : Tab Ph w' T bt ps fs := h.same (fun b _ h1 => hb.block b h1) hb.size
/-- The numbers that a list of formulas has. -/
def NumsAre (fs : List Fm) (js : List Nat) (gs : List Fm) : Prop := (∀ j ∈ js, j < fs.length) ∧ (js.map fun j => fs.getD j zeroF) = gs
theorem NumsAre.grow {fs hs : List Fm} {js : List Nat} {gs : List Fm} (h : NumsAre fs js gs) : NumsAre (fs ++ hs) js gs := by
  (refine ⟨fun j hj => by rw [List.length_append]; have := h.1 j hj; omega, ?_⟩); rw [← h.2]; (refine List.map_congr_left fun j hj => ?_); rw [List.getD_eq_getElem?_getD, List.getD_eq_getElem?_getD, List.getElem?_append_left (h.1 j hj)]
theorem NumsAre.snoc {fs : List Fm} {js : List Nat} {gs : List Fm} {j : Nat} {g : Fm} (h : NumsAre fs js gs) (hj : fs[j]? = some g) : NumsAre fs (js ++ [j]) (gs ++ [g]) := by
  (refine ⟨fun i hi => ?_, ?_⟩)
  · rcases List.mem_append.1 hi with hi | hi
    · exact h.1 i hi
    · rw [List.mem_singleton.1 hi]; exact (List.getElem?_eq_some_iff.1 hj).1
  · rw [List.map_append, h.2]
    simp [hj]
/-- A part that is there, or is put there. -/
theorem Tab.fm {fs : List Fm} {p : PartM} {k : Int} {n : ByteArray} {ks : List Fm} (hk : p.kind = k) (hn : p.name = n) (h : NumsAre fs p.kids ks) : p.fm fs = .mk k n ks := by
  unfold PartM.fm; rw [hk, hn, h.2]
theorem part_small {Ph : Fm → Prop} (hc : Closed Ph) {fs : List Fm} {p : PartM} {k : Int} {n : ByteArray} {ks : List Fm} (hf : Ph (.mk k n ks)) (hk : p.kind = k) (hn : p.name = n) (h : NumsAre fs p.kids ks) (hl : fs.length ≤ 100000) : PartSmall p ∧ n.size ≤ 8 := by
  have hfi := hc.fine _ hf; have hs := hfi.small; (have hlen : p.kids.length = ks.length := by rw [← h.2, List.length_map]); (refine ⟨⟨?_, by rw [hn]; unfold maxLen; omega, by omega, fun j hj => by have := h.1 j hj; omega⟩, hs.1⟩); rw [hk]
  rcases hfi.forms with ⟨m, e, -⟩ | e | e | ⟨k', g, hk', e, -⟩ | ⟨k', g, g', hk', e, -, -⟩
  all_goals (injection e with e1 e2 e3; omega)
end Go.Proofs.Ytmahgfgndfcmpah
/- Walks: the number of a formula that is put together of numbers. -/
namespace Go.Proofs.Ytmahgfgndfcmpah
open Go.RowKit Go.Maps Go.WideMaps

theorem kept_farN {ok ok' : Nat → Prop} {a b c : World} (h : Kept ok a b) (k : Kept ok' b c) (hi : ∀ x, x < a.heap.size → ok x → ok' x) : Kept ok a c :=
  ⟨k.os.trans h.os, k.tape.trans h.tape, k.output.trans h.output, Nat.le_trans h.size k.size, fun x hx ho => (k.block x (Nat.lt_of_lt_of_le hx h.size) (hi x hx ho)).trans (h.block x hx ho)⟩
set_option maxRecDepth 10000 in
set_option maxHeartbeats 4000000 in
theorem numOf_any {Ph : Fm → Prop} (hc : Closed Ph) (k : Int) (n : ByteArray) (ks : List Fm) (js : List Nat) (w : World) (T : Nat → Prop) (bt : Nat) (ps : List PartM) (fs : List Fm) (hf : Ph (.mk k n ks)) (hjl : js.length = ks.length) (hnu : NumsAre fs js ks) (htab : Tab Ph w T bt ps fs) (hl : fs.length ≤ 100000) :
    Calls Try.prog 33 #[.pointer (some ⟨bt, 0, none⟩), .agg #[.int .i64 k, .string n, .int .i64 (ks.length : Nat), .int .i64 ((js.getD 0 0 : Nat) : Int), .int .i64 ((js.getD 1 0 : Nat) : Int)]] w fun e w' => ∃ m T' ps' gs, e = .returned (.int .i64 (m : Nat)) ∧ (fs ++ gs)[m]? = some (.mk k n ks) ∧ Tab Ph w' T' bt (ps ++ ps') (fs ++ gs) ∧ gs.length ≤ 1 ∧ (∀ b, T' b → T b ∨ w.heap.size ≤ b) ∧ Kept (fun b => ¬ T b) w w' := by
  have HPh : Hid (Ph (.mk k n ks)) := hf; have HC : Hid (Closed Ph) := hc; have HNu : Hid (NumsAre fs js ks) := hnu; obtain ⟨x0, hx0⟩ : ∃ x, x = js.getD 0 0 := ⟨_, rfl⟩; obtain ⟨x1, hx1⟩ : ∃ x, x = js.getD 1 0 := ⟨_, rfl⟩; rw [← hx0, ← hx1]; obtain ⟨p, hpe⟩ : ∃ p : PartM, p = ⟨k, n, js⟩ := ⟨_, rfl⟩; (have hsm := part_small (p := p) hc hf (by rw [hpe]) (by rw [hpe]) (by rw [hpe]; exact hnu) hl); obtain ⟨X, hX⟩ : ∃ X, X = w.alloc (.cells #[.int .i64 k, .string n, .int .i64 (ks.length : Nat), .int .i64 (x0 : Nat), .int .i64 (x1 : Nat)] 78 (0, 0)) := ⟨_, rfl⟩; (have HBX : Hid (Below w.heap.size w X) := by rw [hX]; exact below_more (Below.refl _ w) _); (have HQ : Hid (X.heap[w.heap.size]? = some (.cells #[.int .i64 k, .string n, .int .i64 (ks.length : Nat), .int .i64 (x0 : Nat), .int .i64 (x1 : Nat)] 78 (0, 0))) := by rw [hX]; exact blk_new w _); have HTa : Hid (Tab Ph X T bt ps fs) := htab.up HBX.out; have HXe : Hid (w.alloc (.cells #[.int .i64 k, .string n, .int .i64 (ks.length : Nat), .int .i64 (x0 : Nat), .int .i64 (x1 : Nat)] 78 (0, 0)) = X) := hX.symm; have hTo : ∀ b, T b → b < w.heap.size := htab.old; have HTo : Hid (∀ b, T b → b < w.heap.size) := hTo; obtain ⟨adP, cP, adN, cN, bm, h1, -, -, -, h5, -⟩ := HTa.out.tab; obtain ⟨nn, D, hmap, hnn, hh1, hh2⟩ := h5; (have hkv : (Value.agg #[.int .i64 k, .string n, .int .i64 (ks.length : Nat), .int .i64 (x0 : Nat), .int .i64 (x1 : Nat)]) = .agg ⟨partCells p⟩ := by rw [hpe, hx0, hx1]; unfold partCells PartM.k0 PartM.k1; rw [hjl])
  have hkey : keyOf Try.prog 78 (.agg #[.int .i64 k, .string n, .int .i64 (ks.length : Nat), .int .i64 (x0 : Nat), .int .i64 (x1 : Nat)]) = some (partKey p) := by
    rw [hkv]; (exact keyPart _ _ _ _ _ (WalkArith.wf_i64 (by have := hsm.1.kind; omega)) (WalkArith.wf_i64 (by have := hsm.1.two; omega)) (WalkArith.wf_i64 (by have := kid_small hsm.1; omega)) (WalkArith.wf_i64 (by have := kid_small hsm.1; omega)) hsm.1.name)
  obtain ⟨c, hcw, hat, hlk⟩ : ∃ c, (Lit.int .i64 c).wf = true ∧ D.atKey (partKey p) (.lit (.int .i64 0)) = .lit (.int .i64 c) ∧ ∀ x, (Instr.lookup 72 (.map (some bm)) (.agg #[.int .i64 k, .string n, .int .i64 (ks.length : Nat), .int .i64 (x0 : Nat), .int .i64 (x1 : Nat)]) true).run Try.prog (X.drewN x) = .ok (.tuple #[.int .i64 c, .bool (Maps.has D (partKey p))]) (X.drewN x) := by
    have look : ∀ x, ∃ c, (Instr.lookup 72 (.map (some bm)) (.agg #[.int .i64 k, .string n, .int .i64 (ks.length : Nat), .int .i64 (x0 : Nat), .int .i64 (x1 : Nat)]) true).run Try.prog (X.drewN x) = .ok (.tuple #[.int .i64 c, .bool (Maps.has D (partKey p))]) (X.drewN x) ∧ D.atKey (partKey p) (.lit (.int .i64 0)) = .lit (.int .i64 c) ∧ (Lit.int .i64 c).wf = true := fun x => by
      have hm : (X.drewN x).ownsMap Try.prog 78 (plainElem Try.prog 3) bm nn D := hmap; (obtain ⟨v, pl, hrun, hv⟩ := hm.look_ok partLaw Try.underlying72 (zeroInt _) (plainElem_int Try.underlying3 (WalkArith.wf_i64 (by omega))) hkey); obtain ⟨c, rfl, hz, hw⟩ := plainElem_int_inv Try.underlying3 hv; (exact ⟨c, hrun, by injection hz, hw⟩)
    obtain ⟨c, -, hat, hcw⟩ := look 0; (refine ⟨c, hcw, hat, fun x => ?_⟩); obtain ⟨c', hrun, hat', -⟩ := look x; rw [hat] at hat'; (have : c = c' := by injection hat' with e; injection e); rw [this]; exact hrun

  have HSm : Hid (PartSmall p ∧ n.size ≤ 8) := hsm; have HKv : Hid ((Value.agg #[.int .i64 k, .string n, .int .i64 (ks.length : Nat), .int .i64 (x0 : Nat), .int .i64 (x1 : Nat)]) = .agg ⟨partCells p⟩) := hkv; have HPe : Hid (p = ⟨k, n, js⟩) := hpe; have HLf : Hid (fs.length ≤ 100000) := hl; have hhas := hh1 p hsm.1; have HH2 : Hid (∀ p, p ∈ ps → ∃ i, ps[i]? = some p ∧ ∀ z, D.atKey (partKey p) z = .lit (.int .i64 (i : Nat))) := hh2; have HAt : Hid (D.atKey (partKey p) (.lit (.int .i64 0)) = .lit (.int .i64 c)) := hat; obtain ⟨j0, j1, j2, -⟩ := blk3 h1; obtain ⟨c0, c1, c2, c3, c4, -⟩ := blk5 HQ.out; have z1 := lt_of_block h1; have z2 := lt_of_block HQ.out; rw [hhas] at hlk; clear hx0 hx1 hh1 hh2 hmap hnn hhas hsm hkv hkey hpe hl h1 hcw hat hjl hc hf hnu htab hTo hX
  go_enter Try.func33, Try.ntmps33
  by_cases hin : p ∈ ps
  · rw [decide_eq_true hin] at hlk
    have HIn : Hid (p ∈ ps) := hin; clear hin
    go_upto_region 1 with fail
    rw [HXe.out]; go_wp2_with fail
    go_quiet (fail)
    go_wp2_with fail; go_ret; obtain ⟨i, hi, hz⟩ := HH2.out p HIn.out
    have hci : (c : Int) = (i : Nat) := by
      have h1 := (hz (.lit (.int .i64 0))).symm.trans HAt.out
      injection h1 with h2
      injection h2 with h3 h4
      exact h4.symm
    (have hfm : p.fm fs = .mk k n ks := Tab.fm (by rw [HPe.out]) (by rw [HPe.out]) (by rw [HPe.out]; exact HNu.out)); (refine ⟨i, T, [], [], by rw [hci]; rfl, by rw [List.append_nil, ← hfm]; exact HTa.out.ok.found hi, by rw [List.append_nil, List.append_nil]; exact HTa.out.same (fun _ _ _ => rfl) (Nat.le_refl _), by simp, fun b h => Or.inl h, (kept_of_below HBX.out fun _ h _ => h).drewN _⟩)
  · rw [decide_eq_false hin] at hlk
    have HIn : Hid (p ∉ ps) := hin; clear hin
    go_upto_region 1 with fail
    rw [HXe.out]; go_wp2_with fail
    go_quiet (fail)
    go_wp2_with fail; (have hfm : p.fm fs = .mk k n ks := Tab.fm (by rw [HPe.out]) (by rw [HPe.out]) (by rw [HPe.out]; exact HNu.out)); have HFm : Hid (p.fm fs = .mk k n ks) := hfm; have hlen2 := HTa.out.ok.len; (have hkl : ∀ j ∈ p.kids, j < fs.length := by rw [HPe.out]; exact HNu.out.1)
    have hcall := padd_any (X.drewN nq) T bt ps (fs.map Fm.size) (HTa.out.tab.same fun _ _ _ => rfl) p HSm.out.1 HIn.out (by rw [hlen2]; exact hkl) (by rw [hlen2]; exact HLf.out) (fun m hm => by
      obtain ⟨g, hg, rfl⟩ := List.mem_map.1 hm; have := HC.out.small g (HTa.out.all g hg)
      omega) (by have := HSm.out.2; rw [HPe.out]; exact this)
    rw [← HKv.out, nodes_fm hkl] at hcall; refine hcall.mono ?_; clear hcall; rintro e w5 ⟨rfl, htab5, hke5⟩; have HTab5 : Hid (TabAt w5 _ bt (ps ++ [p]) (fs.map Fm.size ++ [(p.fm fs).size])) := htab5; (have HKe5 : Hid (Kept (fun b => ¬ T b) (X.drewN nq) w5) := hke5); have HKl : Hid (∀ j ∈ p.kids, j < fs.length) := hkl; have HLe : Hid (ps.length = fs.length) := hlen2; clear htab5 hke5 hkl hlen2 hfm; go_wp2_with fail; go_ret; (refine ⟨ps.length, fun b => T b ∨ (X.heap.size ≤ b ∧ b < w5.heap.size), [p], [p.fm fs], rfl, ?_, ⟨?_, ?_, ?_, ?_⟩, ?_, ?_, ?_⟩)
    · rw [HLe.out, HFm.out]
      simp
    · have := HTab5.out
      rw [List.map_append]; exact this
    · exact HTa.out.ok.snoc HKl.out HIn.out
    · intro g hg
      rcases List.mem_append.1 hg with h | h
      · exact HTa.out.all g h
      · rw [List.mem_singleton.1 h, HFm.out]; exact HPh.out
    · intro b hb
      rcases hb with h | h
      · exact Nat.lt_of_lt_of_le (HTa.out.old b h) HKe5.out.size
      · exact h.2
    · simp
    · intro b hb
      have hsw := HBX.out.size
      rcases hb with h | h
      · exact Or.inl h
      · exact Or.inr (by omega)
    · exact kept_farN ((kept_of_below HBX.out fun _ h _ => h).drewN nq) HKe5.out fun b hb h => h
end Go.Proofs.Ytmahgfgndfcmpah
/- Walks: a formula's number. -/
namespace Go.Proofs.Ytmahgfgndfcmpah
open Go.RowKit Go.Maps Go.WideMaps

theorem set_k0 {w : World} {b : Nat} {x0 x1 x2 x3 x4 : Value} {T : TypeId} (h : w.heap[b]? = some (.cells #[x0, x1, x2, x3, x4] T (0, 0))) (v : Value) : (w.setCell ⟨b, 3, none⟩ v).heap[b]? = some (.cells #[x0, x1, x2, v, x4] T (0, 0)) := by
  simp [World.setCell, Array.getElem?_modify, h]
theorem set_k1 {w : World} {b : Nat} {x0 x1 x2 x3 x4 : Value} {T : TypeId} (h : w.heap[b]? = some (.cells #[x0, x1, x2, x3, x4] T (0, 0))) (v : Value) : (w.setCell ⟨b, 4, none⟩ v).heap[b]? = some (.cells #[x0, x1, x2, x3, v] T (0, 0)) := by
  simp [World.setCell, Array.getElem?_modify, h]
theorem fsizes_take : ∀ (ks : List Fm) (i : Nat) (g : Fm), ks[i]? = some g → Fm.sizes (ks.take (i + 1)) = Fm.sizes (ks.take i) + g.size ∧ Fm.sizes (ks.take i) + g.size ≤ Fm.sizes ks
  | [], i, g, h => by simp at h
  | x :: ks, 0, g, h => by
    (have e : x = g := by simpa using h); subst e; (have e0 : Fm.sizes ([] : List Fm) = 0 := by rw [Fm.sizes]); rw [List.take_succ_cons, List.take_zero, List.take_zero, e0]; (have e1 : Fm.sizes [x] = x.size + 0 := by simp [Fm.sizes]); (have : Fm.sizes (x :: ks) = x.size + Fm.sizes ks := by rw [Fm.sizes])
    omega
  | x :: ks, i + 1, g, h => by
    (have := fsizes_take ks i g (by simpa using h)); (have e : Fm.sizes (x :: ks) = x.size + Fm.sizes ks := by rw [Fm.sizes]); rw [List.take_succ_cons, List.take_succ_cons, Fm.sizes, Fm.sizes]; omega
theorem kept_far {ok ok' : Nat → Prop} {a b c : World} (h : Kept ok a b) (k : Kept ok' b c) (hi : ∀ x, x < a.heap.size → ok x → ok' x) : Kept ok a c :=
  ⟨k.os.trans h.os, k.tape.trans h.tape, k.output.trans h.output, Nat.le_trans h.size k.size, fun x hx ho => (k.block x (Nat.lt_of_lt_of_le hx h.size) (hi x hx ho)).trans (h.block x hx ho)⟩
def Nums (Ph : Fm → Prop) (m : Nat) : Prop := ∀ (f : Fm) (v : Value) (w : World) (T : Nat → Prop) (bt : Nat) (ps : List PartM) (fs : List Fm), f.size < m → Ph f → Rep w (fun b => ¬ T b) f v → Tab Ph w T bt ps fs → fs.length + f.size ≤ 100000 →
  Calls Try.prog 17 #[.pointer (some ⟨bt, 0, none⟩), v] w fun e w' => ∃ n T' ps' gs, e = .returned (.int .i64 (n : Nat)) ∧ (fs ++ gs)[n]? = some f ∧ Tab Ph w' T' bt (ps ++ ps') (fs ++ gs) ∧ gs.length ≤ f.size ∧ (∀ b, T' b → T b ∨ w.heap.size ≤ b) ∧ Kept (fun b => ¬ T b) w w'

set_option maxRecDepth 10000 in
set_option maxHeartbeats 4000000 in
theorem num_step {Ph : Fm → Prop} (hc : Closed Ph) (m : Nat) (ih : Nums Ph m) : Nums Ph (m + 1) := by
  intro f v w T bt ps fs hm hf hrep htab hlen; obtain ⟨k, n, ks⟩ := f; (have hrep2 : Rep w (fun b => ¬ T b ∧ b < w.heap.size) (.mk k n ks) v := hrep.weak fun b h1 h2 => ⟨h2, h1⟩); obtain ⟨sl, cap, rfl, hx1, hx2, hx3, hx4⟩ := Rep.def.1 hrep2; (have HX : Hid (ks ≠ [] → ∃ b off, sl = some ⟨b, off, none⟩ ∧ (¬ T b ∧ b < w.heap.size) ∧ Reps w (fun b => ¬ T b ∧ b < w.heap.size) b off ks) := hx4); have HTab : Hid (Tab Ph w T bt ps fs) := htab; have HPh : Hid (Ph (.mk k n ks)) := hf; have hk2 : ks.length ≤ 2 := (hc.fine _ hf).small.2; have HC : Hid (Closed Ph) := hc; have HIH : Hid (Nums Ph m) := ih; have HMs : Hid ((Fm.mk k n ks).size < m + 1) := hm; have HLn : Hid (fs.length + (Fm.mk k n ks).size ≤ 100000) := hlen; (have hkI : (ks.length : Int) ≤ 2 := by omega); (have hkc : (ks.length : Int) ≤ (cap : Int) := by omega); clear hx4 hrep hrep2 htab hf hc ih hm hlen
  go_enter Try.func17, Try.ntmps17
  go_wp2_with fail; have B0 : Below w.heap.size w ((w.alloc (.cells #[.int .i64 k, .string n, .slice sl ks.length cap] 24 (0, 0))).alloc (.cells #[.int .i64 k, .string n, .int .i64 (ks.length : Nat), .int .i64 0, .int .i64 0] 78 (0, 0))) := below_more (below_more (Below.refl _ w) _) _; have Q0 : ((w.alloc (.cells #[.int .i64 k, .string n, .slice sl ks.length cap] 24 (0, 0))).alloc (.cells #[.int .i64 k, .string n, .int .i64 (ks.length : Nat), .int .i64 0, .int .i64 0] 78 (0, 0))).heap[w.heap.size + 1]? = some (.cells #[.int .i64 k, .string n, .int .i64 (ks.length : Nat), .int .i64 0, .int .i64 0] 78 (0, 0)) := blk_two w _ _; (have Z0 : ((w.alloc (.cells #[.int .i64 k, .string n, .slice sl ks.length cap] 24 (0, 0))).alloc (.cells #[.int .i64 k, .string n, .int .i64 (ks.length : Nat), .int .i64 0, .int .i64 0] 78 (0, 0))).heap.size = w.heap.size + 2 := by simp); have HB0 : Hid (Below w.heap.size w ((w.alloc (.cells #[.int .i64 k, .string n, .slice sl ks.length cap] 24 (0, 0))).alloc (.cells #[.int .i64 k, .string n, .int .i64 (ks.length : Nat), .int .i64 0, .int .i64 0] 78 (0, 0)))) := B0; have HQ0 : Hid (((w.alloc (.cells #[.int .i64 k, .string n, .slice sl ks.length cap] 24 (0, 0))).alloc (.cells #[.int .i64 k, .string n, .int .i64 (ks.length : Nat), .int .i64 0, .int .i64 0] 78 (0, 0))).heap[w.heap.size + 1]? = some (.cells #[.int .i64 k, .string n, .int .i64 (ks.length : Nat), .int .i64 0, .int .i64 0] 78 (0, 0))) := Q0; have HZ0 : Hid (((w.alloc (.cells #[.int .i64 k, .string n, .slice sl ks.length cap] 24 (0, 0))).alloc (.cells #[.int .i64 k, .string n, .int .i64 (ks.length : Nat), .int .i64 0, .int .i64 0] 78 (0, 0))).heap.size = w.heap.size + 2) := Z0; clear B0 Q0 Z0; generalize (w.alloc (.cells #[.int .i64 k, .string n, .slice sl ks.length cap] 24 (0, 0))).alloc (.cells #[.int .i64 k, .string n, .int .i64 (ks.length : Nat), .int .i64 0, .int .i64 0] 78 (0, 0)) = W at *; have HT0 : Hid (Tab Ph W T bt ps fs) := HTab.out.up HB0.out
  go_loopg [19] ks.length (fun g c wr => ∃ i js T' ps' gs, i ≤ ks.length ∧ g = ks.length - i ∧ c = .int .i64 (i : Nat) ∧ js.length = i ∧ Hid (NumsAre (fs ++ gs) js (ks.take i)) ∧ Hid (Tab Ph wr T' bt (ps ++ ps') (fs ++ gs)) ∧ Hid (gs.length ≤ Fm.sizes (ks.take i)) ∧ Hid (∀ b, T' b → T b ∨ w.heap.size + 2 ≤ b) ∧ Hid (Kept (fun b => ¬ T b) w wr) ∧ Hid (w.heap.size + 2 ≤ wr.heap.size) ∧ Hid (wr.heap[w.heap.size + 1]? = some (.cells #[.int .i64 k, .string n, .int .i64 (ks.length : Nat), .int .i64 ((js.getD 0 0 : Nat) : Int), .int .i64 ((js.getD 1 0 : Nat) : Int)] 78 (0, 0))))
  case atStart =>
    (refine ⟨0, [], T, [], [], by omega, by omega, rfl, rfl, ⟨(fun j hj => by cases hj), rfl⟩, by rw [List.append_nil, List.append_nil]; exact HT0.out, Nat.zero_le _, fun b h => Or.inl h, kept_of_below HB0.out fun _ h _ => h, Nat.le_of_eq HZ0.out.symm, HQ0.out⟩)
  case round =>
    obtain ⟨i, js, T', ps', gs, hi, hg, rfl, hjl, HNu, HTa, HGl, HT', HKe, HSz, HQ⟩ := hrel; have HG : Hid (gk = ks.length - i) := hg; clear hg HT0 HQ0 HB0 HZ0
    have hTb : ¬ T' (w.heap.size + 1) := fun h => by
      rcases HT'.out _ h with h | h
      · have := HTab.out.old _ h
        omega
      · omega
    have HTb : Hid (¬ T' (w.heap.size + 1)) := hTb; clear hTb; by_cases hlt : i < ks.length
    · obtain ⟨⟨kk, kn, kks⟩, hkid⟩ : ∃ g, ks[i]? = some g := ⟨_, List.getElem?_eq_getElem hlt⟩
      (obtain ⟨b, off, rfl, hb, hrs⟩ := HX.out (fun e => by rw [e] at hlt; simp at hlt)); (have HRs : Hid (Reps wr (fun b => ¬ T b ∧ b < w.heap.size) b off ks) := hrs.kept hb (HKe.out.mono fun _ _ h => h.1)); obtain ⟨sk, ck, c0, c1, c2, hrk⟩ := HRs.out.at i kk kn kks hkid; (have HRk : Hid (Rep wr (fun b => ¬ T b ∧ b < w.heap.size) (.mk kk kn kks) _) := hrk); (have hltI : (i : Int) < (ks.length : Int) := by omega); (have hltc : (i : Int) < (cap : Int) := by omega); (have hi2 : (i : Int) < 2 := by omega); have zb := lt_of_cell c0; simp only at zb; clear hrs hrk hb HX; go_wp2_with fail; have hsz := fsizes_take ks i _ hkid; have HSk : Hid (Fm.sizes (ks.take (i + 1)) = Fm.sizes (ks.take i) + (Fm.mk kk kn kks).size) := hsz.1
      have hcall := HIH.out (.mk kk kn kks) _ (wr.alloc (.cells #[.int .i64 kk, .string kn, .slice sk kks.length ck] 24 (0, 0))) T' bt (ps ++ ps') (fs ++ gs) (by have := HMs.out; rw [Fm.size] at this; omega) (HC.out.kids _ _ _ HPh.out _ (List.mem_of_getElem? hkid))
        (HRk.out.move (ok' := fun b => ¬ T' b) fun b h1 h2 => ⟨Below.heap_alloc _ _ _ h1, fun h => by
          rcases HT'.out b h with h | h
          · exact h2.1 h
          · have := h2.2
            omega⟩) (HTa.out.up ((Below.refl _ wr).alloc (Nat.le_refl _) _)) (by
          have h1 := HLn.out; have h2 := HGl.out; rw [Fm.size] at h1; rw [List.length_append]
          omega)
      refine hcall.mono ?_; clear hcall; rintro e w2 ⟨j, T2, ps2, gs2, rfl, hj, htab2, hgl2, hT2, hke2⟩; have hsw : w.heap.size + 2 ≤ wr.heap.size := HSz.out; (have Q2 : Hid (w2.heap[w.heap.size + 1]? = some _) := (hke2.block (w.heap.size + 1) (by simp; omega) HTb.out).trans (alloc_keep HQ.out _))
      have hT2b : ∀ b, T2 b → T b ∨ w.heap.size + 2 ≤ b := fun b h => by
        rcases hT2 b h with h | h
        · exact HT'.out b h
        · right
          simp at h; omega
      have hT2n : ¬ T2 (w.heap.size + 1) := fun h => by
        rcases hT2b _ h with h | h
        · have := HTab.out.old _ h
          omega
        · omega
      have HK2 : Hid (Kept (fun b => ¬ T b) w w2) := kept_far (HKe.out.alloc _) hke2 fun b hb h h' => by
        rcases HT'.out b h' with h2 | h2
        · exact h h2
        · omega
      have HTa2 : Hid (Tab Ph w2 T2 bt (ps ++ ps' ++ ps2) (fs ++ gs ++ gs2)) := htab2; have HT2b : Hid (∀ b, T2 b → T b ∨ w.heap.size + 2 ≤ b) := hT2b; have HT2n : Hid (¬ T2 (w.heap.size + 1)) := hT2n; have HJ : Hid ((fs ++ gs ++ gs2)[j]? = some (.mk kk kn kks)) := hj; have HGl2 : Hid (gs2.length ≤ (Fm.mk kk kn kks).size) := hgl2
      have HS2 : Hid (wr.heap.size + 1 ≤ w2.heap.size) := by
        have := hke2.size; simp at this; exact this
      have HTk : Hid (ks.take (i + 1) = ks.take i ++ [.mk kk kn kks]) := by
        show _ = _; rw [List.take_add_one, hkid]; rfl
      clear hj htab2 hgl2 hT2 hke2 hT2b hT2n HTa HKe HT' HTb HIH HRs HRk c0 c1 c2 zb hsz hkid; obtain ⟨d0, d1, d2, d3, d4, z0, z1, z2, z3, z4⟩ := blk5 Q2.out; (have e01 : i = 0 ∨ i = 1 := by omega)
      rcases e01 with rfl | rfl
      · go_wp2_with fail
        go_roundg (ks.length - (0 + 1))
        case measure => have := HG.out; omega
        case rel =>
          have hs2 := HS2.out; (refine ⟨0 + 1, js ++ [j], T2, ps' ++ ps2, gs ++ gs2, by omega, rfl, by go_num, by rw [List.length_append, hjl]; rfl, ?_, ?_, ?_, HT2b.out, HK2.out.setCell (fun h => absurd h (by simp)) _, ?_, ?_⟩)
          · rw [← List.append_assoc, HTk.out]
            exact HNu.out.grow.snoc HJ.out
          · rw [← List.append_assoc, ← List.append_assoc]
            (exact HTa2.out.same (fun b hb _ => Below.heap_setCell _ _ _ _ (fun e => HT2n.out (by simp at e; rw [← e]; exact hb))) (by simp [World.setCell]))
          · show _ ≤ _
            rw [HSk.out, List.length_append]; have h1 := HGl.out; have h2 := HGl2.out; omega
          · show _ ≤ _
            simp [World.setCell]; omega
          · have hq := Q2.out
            obtain rfl : js = [] := List.length_eq_zero_iff.1 hjl; exact set_k0 hq _
      · go_wp2_with fail
        go_roundg (ks.length - (1 + 1))
        case measure => have := HG.out; omega
        case rel =>
          have hs2 := HS2.out; (refine ⟨1 + 1, js ++ [j], T2, ps' ++ ps2, gs ++ gs2, by omega, rfl, by go_num, by rw [List.length_append, hjl]; rfl, ?_, ?_, ?_, HT2b.out, HK2.out.setCell (fun h => absurd h (by simp)) _, ?_, ?_⟩)
          · rw [← List.append_assoc, HTk.out]
            exact HNu.out.grow.snoc HJ.out
          · rw [← List.append_assoc, ← List.append_assoc]
            (exact HTa2.out.same (fun b hb _ => Below.heap_setCell _ _ _ _ (fun e => HT2n.out (by simp at e; rw [← e]; exact hb))) (by simp [World.setCell]))
          · show _ ≤ _
            rw [HSk.out, List.length_append]; have h1 := HGl.out; have h2 := HGl2.out; omega
          · show _ ≤ _
            simp [World.setCell]; omega
          · have hq := Q2.out
            obtain ⟨j0, rfl⟩ : ∃ x, js = [x] := List.length_eq_one_iff.1 hjl; exact set_k1 hq _
    · have hge : ¬ (i : Int) < (ks.length : Int) := by omega
      (have hie : i = ks.length := by omega); subst hie; clear HG; rw [List.take_length] at HNu HGl
      have hlf : (fs ++ gs).length ≤ 100000 := by
        have h1 := HLn.out; have h2 := HGl.out; rw [Fm.size] at h1; rw [List.length_append]; omega
      (have hcall := fun W (hb : Below wr.heap.size wr W) => numOf_any HC.out k n ks js W T' bt (ps ++ ps') (fs ++ gs) HPh.out hjl HNu.out (HTa.out.up hb) hlf); obtain ⟨x0, hx0⟩ : ∃ x, x = js.getD 0 0 := ⟨_, rfl⟩; obtain ⟨x1, hx1⟩ : ∃ x, x = js.getD 1 0 := ⟨_, rfl⟩; rw [← hx0, ← hx1] at HQ hcall; have HCall : Hid (∀ W, Below wr.heap.size wr W → Calls Try.prog 33 _ W _) := hcall; obtain ⟨c0, c1, c2, c3, c4, -⟩ := blk5 HQ.out; clear hx0 hx1 hcall hlf hjl hlt hi HX HIH; go_wp2_with fail; refine (HCall.out _ (Below.refl _ _)).mono ?_; rintro e w5 ⟨m5, T5, ps5, gs5, rfl, h1, h2, h3, h4, h5⟩; have H1 : Hid ((fs ++ gs ++ gs5)[m5]? = some (.mk k n ks)) := h1; have H2 : Hid (Tab Ph w5 T5 bt (ps ++ ps' ++ ps5) (fs ++ gs ++ gs5)) := h2; have H3 : Hid (gs5.length ≤ 1) := h3; have H4 : Hid (∀ b, T5 b → T' b ∨ wr.heap.size ≤ b) := h4; (have H5 : Hid (Kept (fun b => ¬ T' b) wr w5) := h5); clear h1 h2 h3 h4 h5 c0 c1 c2 c3 c4 HCall; go_wp2_with fail; go_ret; (refine ⟨m5, T5, ps' ++ ps5, gs ++ gs5, rfl, by rw [← List.append_assoc]; exact H1.out, by rw [← List.append_assoc, ← List.append_assoc]; exact H2.out, ?_, fun b hb => ?_, ?_⟩)
      · have h6 := HGl.out
        have h7 := H3.out; rw [Fm.size, List.length_append]; omega
      · have hsw : w.heap.size + 2 ≤ wr.heap.size := HSz.out
        rcases H4.out b hb with h | h
        · rcases HT'.out b h with h | h
          · exact Or.inl h
          · exact Or.inr (by omega)
        · exact Or.inr (by omega)
      · exact kept_far HKe.out H5.out fun b hb h h' => by
          rcases HT'.out b h' with h2 | h2
          · exact h h2
          · omega
theorem nums_all {Ph : Fm → Prop} (hc : Closed Ph) : ∀ m, Nums Ph m
  | 0 => fun _ _ _ _ _ _ _ h => absurd h (Nat.not_lt_zero _)
  | m + 1 => num_step hc m (nums_all hc m)
/-- A formula's number: the table holds it from then on. -/
theorem number_any {Ph : Fm → Prop} (hc : Closed Ph) (f : Fm) (v : Value) (w : World) (T : Nat → Prop) (bt : Nat) (ps : List PartM) (fs : List Fm) (hf : Ph f) (hrep : Rep w (fun b => ¬ T b) f v) (htab : Tab Ph w T bt ps fs) (hl : fs.length + f.size ≤ 100000) :
    Calls Try.prog 17 #[.pointer (some ⟨bt, 0, none⟩), v] w fun e w' => ∃ n T' ps' gs, e = .returned (.int .i64 (n : Nat)) ∧ (fs ++ gs)[n]? = some f ∧ Tab Ph w' T' bt (ps ++ ps') (fs ++ gs) ∧ gs.length ≤ f.size ∧ (∀ b, T' b → T b ∨ w.heap.size ≤ b) ∧ Kept (fun b => ¬ T b) w w' :=
  nums_all hc (f.size + 1) f v w T bt ps fs (Nat.lt_succ_self _) hf hrep htab hl
end Go.Proofs.Ytmahgfgndfcmpah
