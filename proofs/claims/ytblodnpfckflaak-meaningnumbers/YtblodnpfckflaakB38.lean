/- Texts of one proof, one behind the other: RM3. -/
import Derived.Test.YtblodnpfckflaakB37
/- Walks: renumbered: a structure whose things are shifted. (gen/rm3.py) -/
namespace Go.Proofs.Ytblodnpfckflaak
open Go.RowKit Go.Sort

/-- A table that is shifted on the way: so many places are laid. -/
def TabI (N b m : Nat) (tab T : List Int) (k : Nat) : Prop := T.length = tab.length ∧ (∀ y ∈ T, thingB N y = true) ∧ ∀ (j : Nat) (x : Int), j < k → tab[j]? = some x → T[mvP N b m j]? = some ((x + (b : Int)) % (N : Int))
def BitI (N b m : Nat) (tab T : List Bool) (k : Nat) : Prop := T.length = tab.length ∧ ∀ (j : Nat) (x : Bool), j < k → tab[j]? = some x → T[mvP N b m j]? = some x
theorem TabI.start {N : Nat} (h : 1 ≤ N) (b m : Nat) (tab : List Int) : TabI N b m tab (List.replicate tab.length 0) 0 := ⟨by simp, fun y hy => by rw [(List.mem_replicate.1 hy).2]; unfold thingB; simp; omega, fun j x hj => by omega⟩
theorem BitI.start (N b m : Nat) (tab : List Bool) : BitI N b m tab (List.replicate tab.length false) 0 := ⟨by simp, fun j x hj => by omega⟩
theorem TabI.step {N b m : Nat} (h : 1 ≤ N) {tab T : List Int} {k : Nat} {x : Int} (hi : TabI N b m tab T k) (hl : tab.length = N ^ m) (hx : tab[k]? = some x) : TabI N b m tab (T.set (mvP N b m k) ((x + (b : Int)) % (N : Int))) (k + 1) := by
  obtain ⟨h1, h2, h3⟩ := hi; have hk : k < tab.length := (List.getElem?_eq_some_iff.1 hx).1; (refine ⟨by rw [List.length_set]; exact h1, fun y hy => ?_, fun j z hj hz => ?_⟩)
  · rcases List.mem_or_eq_of_mem_set hy with hy | rfl
    · exact h2 y hy
    · have a1 : (0 : Int) ≤ (x + (b : Int)) % (N : Int) := Int.emod_nonneg _ (by omega)
      (have a2 : (x + (b : Int)) % (N : Int) < (N : Int) := Int.emod_lt_of_pos _ (by omega)); unfold thingB; simp [a1, a2]
  · have hjl : j < tab.length := (List.getElem?_eq_some_iff.1 hz).1
    by_cases e : j = k
    · subst e
      rw [hx] at hz
      cases hz
      (rw [List.getElem?_set_self (by rw [h1, hl]; exact mvP_lt h b m j)])
    · rw [List.getElem?_set_ne (fun e2 => e ((mvP_inj h b m j k (by omega) (by omega) e2.symm)))]
      (exact h3 j z (by omega) hz)
theorem BitI.step {N b m : Nat} (h : 1 ≤ N) {tab T : List Bool} {k : Nat} {x : Bool} (hi : BitI N b m tab T k) (hl : tab.length = N ^ m) (hx : tab[k]? = some x) : BitI N b m tab (T.set (mvP N b m k) x) (k + 1) := by
  obtain ⟨h1, h3⟩ := hi; have hk : k < tab.length := (List.getElem?_eq_some_iff.1 hx).1; (refine ⟨by rw [List.length_set]; exact h1, fun j z hj hz => ?_⟩); have hjl : j < tab.length := (List.getElem?_eq_some_iff.1 hz).1; by_cases e : j = k
  · subst e
    rw [hx] at hz
    cases hz
    (rw [List.getElem?_set_self (by rw [h1, hl]; exact mvP_lt h b m j)])
  · rw [List.getElem?_set_ne (fun e2 => e ((mvP_inj h b m j k (by omega) (by omega) e2.symm)))]
    (exact h3 j z (by omega) hz)
/-- What renumbered asks of the lists. -/
def FnsOk (N : Nat) (l : List FnD) : Prop := ∀ f ∈ l, ∃ m : Nat, m ≤ 3 ∧ f.ar = (m : Int) ∧ f.tab.length = N ^ m ∧ ∀ x ∈ f.tab, 0 ≤ x ∧ x < (N : Int)
def PdsOk (N : Nat) (l : List PdD) : Prop := ∀ f ∈ l, ∃ m : Nat, m ≤ 3 ∧ f.ar = (m : Int) ∧ f.bits.length = N ^ m
def RnEnd (s : StD) (b : Nat) (w : World) (e : Ending) (w' : World) : Prop := ∃ s' v', e = .returned v' ∧ StrT b s s' ∧ StR w' s' v' ∧ Below w.heap.size w w'
theorem al20 (W : World) (a b : Obj) : ((W.alloc a).alloc b).heap[W.heap.size]? = some a := alloc_keep (blk_new _ _) _
theorem al21 (W : World) (a b : Obj) : ((W.alloc a).alloc b).heap[W.heap.size + 1]? = some b := blk_secE _ _ _
theorem al2b (W : World) (a b : Obj) : Below W.heap.size W ((W.alloc a).alloc b) := below_more (below_more (Below.refl _ W) _) _
theorem al41 (W : World) (a b c d : Obj) : ((((W.alloc a).alloc b).alloc c).alloc d).heap[W.heap.size]? = some a ∧ ((((W.alloc a).alloc b).alloc c).alloc d).heap[W.heap.size + 1]? = some b ∧ ((((W.alloc a).alloc b).alloc c).alloc d).heap[W.heap.size + 1 + 1]? = some c ∧ ((((W.alloc a).alloc b).alloc c).alloc d).heap[W.heap.size + 1 + 1 + 1]? = some d ∧ Below W.heap.size W ((((W.alloc a).alloc b).alloc c).alloc d) := by
  obtain ⟨h1, h2, h3⟩ := blk_threeM W a b c; refine ⟨alloc_keep h1 _, alloc_keep h2 _, alloc_keep h3 _, ?_, below_more (below_more (below_more (below_more (Below.refl _ W) _) _) _) _⟩; have := blk_new (((W.alloc a).alloc b).alloc c) d
  rwa [World.size_alloc, World.size_alloc, World.size_alloc] at this
/-- The functions that are laid so far. -/
def FuI (w : World) (N b : Nat) (l : List FnD) (i : Nat) (pv : Value) (wr : World) : Prop := ∃ m ad c us, wr.heap[w.heap.size + 1 + 1 + 1]? = some (.cells #[.int .i64 (N : Nat), .slice ad m.length c, pv] 25 (0, 0)) ∧ wr.ownsRow w.heap.size 64 3 (.slice ad m.length c) m.length us ∧ FnsAre w.heap.size wr us m ∧ FnsT N b (l.take i) m
/-- The predicates that are laid so far; the functions stay. -/
def PrI (w : World) (N b : Nat) (l : List FnD) (p : List PdD) (i : Nat) (wr : World) : Prop := ∃ m ad c us q ad2 c2 vs, wr.heap[w.heap.size + 1 + 1 + 1]? = some (.cells #[.int .i64 (N : Nat), .slice ad m.length c, .slice ad2 q.length c2] 25 (0, 0)) ∧ wr.ownsRow w.heap.size 64 3 (.slice ad m.length c) m.length us ∧ FnsAre w.heap.size wr us m ∧ FnsT N b l m ∧ wr.ownsRow w.heap.size 67 3 (.slice ad2 q.length c2) q.length vs ∧ PdsAre w.heap.size wr vs q ∧ PdsT N b (p.take i) q
theorem far3R {w : World} {b x : Nat} (hb : x ≠ b) (u0 u1 u2 : Value) : (((w.setCell ⟨b, 0, none⟩ u0).setCell ⟨b, 1, none⟩ u1).setCell ⟨b, 2, none⟩ u2).heap[x]? = w.heap[x]? := by
  simp [World.setCell, Array.getElem?_modify, Ne.symm hb]
theorem below3R {w w6 : World} {b : Nat} (hb : w.heap.size ≤ b) (B : Below w.heap.size w w6) (u0 u1 u2 : Value) : Below w.heap.size w (((w6.setCell ⟨b, 0, none⟩ u0).setCell ⟨b, 1, none⟩ u1).setCell ⟨b, 2, none⟩ u2) := ((B.setCell (by simpa using hb) _).setCell (by simpa using hb) _).setCell (by simpa using hb) _
theorem set_farR {w : World} {p : Addr} {q : Nat} (h : p.block ≠ q) (v : Value) : (w.setCell p v).heap[q]? = w.heap[q]? := by
  simp [World.setCell, Array.getElem?_modify, h]
theorem take_more {α : Type} {l : List α} {i : Nat} {x : α} (h : l[i]? = some x) : l.take (i + 1) = l.take i ++ [x] := by rw [List.take_add_one, h]; rfl
set_option maxRecDepth 10000 in
set_option maxHeartbeats 16000000 in
theorem renum_any (s : StD) (N b : Nat) (v : Value) (w : World) (hS : StR w s v) (hN : s.n = (N : Int)) (h1 : 1 ≤ N) (h8 : N ≤ 8) (hb : b ≤ 100) (hfo : FnsOk N s.funs) (hpo : PdsOk N s.preds) (hf10 : s.funs.length ≤ 10) (hp10 : s.preds.length ≤ 10) :
    Calls Try.prog 13 #[v, .int .i64 (b : Nat)] w (RnEnd s b w) := by
  have HK : Hid (1 ≤ N ∧ N ≤ 8 ∧ b ≤ 100) := ⟨h1, h8, hb⟩; have HFO : Hid (FnsOk N s.funs) := hfo; have HPO : Hid (PdsOk N s.preds) := hpo; have HNs : Hid (s.n = (N : Int)) := hN; obtain ⟨af, cf, ap, cp, rfl, hF, hP⟩ := hS; rw [hN]; obtain ⟨p2, p3, p4, p5, pb⟩ := al41 w (.cells #[.int .i64 (N : Nat), .slice af s.funs.length cf, .slice ap s.preds.length cp] 25 (0, 0)) (.cells #[.int .i64 (b : Nat)] 3 (0, 0)) (.cells #[.int .i64 0, .slice none 0 0, .slice none 0 0] 25 (0, 0)) (.cells #[.int .i64 0, .slice none 0 0, .slice none 0 0] 25 (0, 0)); obtain ⟨q2, q3, q4, q5, pq⟩ := al41 w (.cells #[.int .i64 (N : Nat), .slice af s.funs.length cf, .slice ap s.preds.length cp] 25 (0, 0)) (.cells #[.int .i64 (b : Nat)] 3 (0, 0)) (.cells #[.int .i64 0, .slice none 0 0, .slice none 0 0] 25 (0, 0)) (.cells #[.int .i64 (N : Nat), .slice none 0 0, .slice none 0 0] 25 (0, 0)); obtain ⟨W, hWe⟩ : ∃ W, W = (((w.alloc (.cells #[.int .i64 (N : Nat), .slice af s.funs.length cf, .slice ap s.preds.length cp] 25 (0, 0))).alloc (.cells #[.int .i64 (b : Nat)] 3 (0, 0))).alloc (.cells #[.int .i64 0, .slice none 0 0, .slice none 0 0] 25 (0, 0))).alloc (.cells #[.int .i64 (N : Nat), .slice none 0 0, .slice none 0 0] 25 (0, 0)) := ⟨_, rfl⟩; have HWe : Hid (W = _) := hWe; obtain ⟨a0, a1, a2, -⟩ := blk3 (blk_threeM w (.cells #[.int .i64 (N : Nat), .slice af s.funs.length cf, .slice ap s.preds.length cp] 25 (0, 0)) (.cells #[.int .i64 (b : Nat)] 3 (0, 0)) (.cells #[.int .i64 0, .slice none 0 0, .slice none 0 0] 25 (0, 0))).1; obtain ⟨k0, k1, k2, k3, k4, k5⟩ := blk3 p5; have hs1 := lt_of_block p5; have hs2 := lt_of_block (blk_threeM w (.cells #[.int .i64 (N : Nat), .slice af s.funs.length cf, .slice ap s.preds.length cp] 25 (0, 0)) (.cells #[.int .i64 (b : Nat)] 3 (0, 0)) (.cells #[.int .i64 0, .slice none 0 0, .slice none 0 0] 25 (0, 0))).1; rw [← hWe] at q2 q3 q4 q5 pq; have HB0 : Hid (Below w.heap.size w W) := pq; have HS0 : Hid (W.heap[w.heap.size]? = some (.cells #[.int .i64 (N : Nat), .slice af s.funs.length cf, .slice ap s.preds.length cp] 25 (0, 0))) := q2; have HQ0 : Hid (W.heap[w.heap.size + 1]? = some (.cells #[.int .i64 (b : Nat)] 3 (0, 0))) := q3; have HZ0 : Hid (W.heap[w.heap.size + 1 + 1]? = some (.cells #[.int .i64 0, .slice none 0 0, .slice none 0 0] 25 (0, 0))) := q4; (have HU0 : Hid (FuI w N b s.funs 0 (.slice none 0 0) W) := ⟨[], none, 0, [], q5, ⟨rfl, Or.inl ⟨rfl, rfl⟩⟩, FnsAre.nil _ _, by rw [List.take_zero]; simp [FnsT]⟩); obtain ⟨af', cf', e, f1, f2, f3⟩ := hF; simp only [Value.slice.injEq, true_and] at e; obtain ⟨rfl, rfl⟩ := e; obtain ⟨ap', cp', e, g1, g2, g3⟩ := hP; simp only [Value.slice.injEq, true_and] at e; obtain ⟨rfl, rfl⟩ := e; have HF : Hid (s.funs ≠ [] → ∃ g off, af = some ⟨g, off, none⟩ ∧ ∀ (i : Nat) (f : FnD), s.funs[i]? = some f → ∃ sl cp, w.cell? ⟨g, off + i * 3, none⟩ = some (.string f.nm) ∧ w.cell? ⟨g, off + i * 3 + 1, none⟩ = some (.int .i64 f.ar) ∧ w.cell? ⟨g, off + i * 3 + 2, none⟩ = some (.slice sl f.tab.length cp) ∧ FnR w f (.agg #[.string f.nm, .int .i64 f.ar, .slice sl f.tab.length cp])) := f3; have HP : Hid (s.preds ≠ [] → ∃ g off, ap = some ⟨g, off, none⟩ ∧ ∀ (i : Nat) (f : PdD), s.preds[i]? = some f → ∃ sl cp, w.cell? ⟨g, off + i * 3, none⟩ = some (.string f.nm) ∧ w.cell? ⟨g, off + i * 3 + 1, none⟩ = some (.int .i64 f.ar) ∧ w.cell? ⟨g, off + i * 3 + 2, none⟩ = some (.slice sl f.bits.length cp) ∧ PdR w f (.agg #[.string f.nm, .int .i64 f.ar, .slice sl f.bits.length cp])) := g3; (have hfI : ((s.funs.length : Nat) : Int) ≤ 10 := by omega); (have hpI : ((s.preds.length : Nat) : Int) ≤ 10 := by omega); have HTe : Hid (s.funs.length ≤ 10 ∧ s.preds.length ≤ 10) := ⟨hf10, hp10⟩; clear f1 f2 f3 g1 g2 g3 p2 p3 p4 p5 pb q2 q3 q4 q5 pq hWe hf10 hp10 h1 h8 hb hN hfo hpo
  go_enter Try.func13, Try.ntmps13
  go_wp2_with fail; rw [← HWe.out]; clear a0 a1 a2 k0 k1 k2 k3 k4 k5 hs1 hs2 HWe
  go_loopg [7] s.funs.length (fun gg c wr => ∃ i, i ≤ s.funs.length ∧ gg = s.funs.length - i ∧ c = .int .i64 (i : Nat) ∧ Hid (Below w.heap.size w wr) ∧ Hid (wr.heap[w.heap.size]? = some (.cells #[.int .i64 (N : Nat), .slice af s.funs.length cf, .slice ap s.preds.length cp] 25 (0, 0))) ∧ Hid (wr.heap[w.heap.size + 1]? = some (.cells #[.int .i64 (b : Nat)] 3 (0, 0))) ∧ Hid (wr.heap[w.heap.size + 1 + 1]? = some (.cells #[.int .i64 0, .slice none 0 0, .slice none 0 0] 25 (0, 0))) ∧ Hid (FuI w N b s.funs i (.slice none 0 0) wr))
  case atStart => exact ⟨0, by omega, by omega, rfl, HB0, HS0, HQ0, HZ0, HU0⟩
  case round =>
    obtain ⟨i, hile, hg, rfl, HB, HS, HQ, HZ, HU⟩ := hrel; have HG : Hid (gk = s.funs.length - i) := hg; clear hg HB0 HS0 HQ0 HZ0 HU0; obtain ⟨a0, a1, a2, -⟩ := blk3 HS.out; have hs1 := lt_of_block HS.out; by_cases hlt : i < s.funs.length
    · obtain ⟨⟨nm, ar, tab⟩, hfi⟩ : ∃ x, s.funs[i]? = some x := ⟨_, List.getElem?_eq_getElem hlt⟩
      (obtain ⟨g, off, rfl, hc⟩ := HF.out (fun e => by rw [e] at hlt; simp at hlt)); obtain ⟨sl, cq, z0, z1, z2, hfr⟩ := hc i _ hfi; obtain ⟨m, hm3, har, htl, htx⟩ := HFO.out _ (List.mem_of_getElem? hfi)
      dsimp only at z0 z1 z2 hfr har htl htx
      subst har; obtain ⟨sl', cq', e, hnm, hil⟩ := hfr; simp only [Value.agg.injEq, Array.mk.injEq, List.cons.injEq, Value.slice.injEq, and_true, true_and] at e; obtain ⟨rfl, rfl⟩ := e; have y0 := (HB.out.cell (lt_of_cell z0)).trans z0; have y1 := (HB.out.cell (lt_of_cell z1)).trans z1; have y2 := (HB.out.cell (lt_of_cell z2)).trans z2; (have hltI : (i : Int) < (s.funs.length : Int) := by omega); have HLt : Hid (i < s.funs.length) := hlt; have HNm : Hid (nm.size ≤ maxLen) := hnm; have HIl : Hid (IL w (.slice sl tab.length cq) tab) := hil; have HZ2 : Hid (w.cell? ⟨g, off + i * 3 + 2, none⟩ = some (.slice sl tab.length cq)) := z2; have HTl : Hid (tab.length = N ^ m ∧ m ≤ 3) := ⟨htl, hm3⟩; have HTx : Hid (∀ x ∈ tab, 0 ≤ x ∧ x < (N : Int)) := htx; have HFi : Hid (s.funs[i]? = some (⟨nm, ((m : Nat) : Int), tab⟩ : FnD)) := hfi; (have hM5 : tab.length ≤ 512 := by rw [htl]; exact pow8 HK.out.2.1 hm3); (have hMI : (tab.length : Int) ≤ 512 := by omega); (obtain ⟨C, hC, hCl, hmk⟩ := mk_ints0 tab.length (by omega)); have HC : Hid (C.size = tab.length ∧ C.toList = (List.replicate tab.length 0).map encN) := ⟨hC, hCl⟩; have hgl := lt_of_cell y2; clear hfi hc z0 z1 z2 htl htx hnm hil hC hCl hM5 hm3 hlt; go_wp2_with fail
      go_cut [8] from 17 to 79 (fun v wc => ∃ bv gt, v = .pointer (some ⟨bv, 0, none⟩) ∧ Hid (Below wr.heap.size wr wc) ∧ Hid (wr.heap.size ≤ bv ∧ wr.heap.size ≤ gt) ∧ Hid (wc.heap[bv]? = some (.cells #[.string nm, .int .i64 (m : Nat), .slice (some ⟨gt, 0, none⟩) tab.length tab.length] 64 (0, 0))) ∧ Hid (wc.heap[gt]? = some (.cells C 3 (0, 0))))
      case first =>
        go_region
        all_goals (go_wp2_with fail)
        all_goals go_meet
        all_goals first
          | exact ⟨wr.heap.size, wr.heap.size + 1, rfl, (al2b _ _ _).drew, ⟨by omega, by omega⟩, al20 _ _ _, al21 _ _ _⟩
          | exact ⟨wr.heap.size + 1, wr.heap.size, rfl, (al2b _ _ _).drew, ⟨by omega, by omega⟩, al21 _ _ _, al20 _ _ _⟩
      case rest =>
        obtain ⟨bv, gt, rfl, HBc, HGe, HFc, HGc⟩ := hcut; clear hmk a0 a1 a2 y0 y1 y2 hgl hs1; obtain ⟨wa, hwa⟩ : ∃ wa, wa = wr := ⟨_, rfl⟩; rw [← hwa] at HBc HGe HB HS HQ HZ HU; clear hwa
        have HNe : Hid (bv ≠ gt) := fun e => by
          have h1 := HFc.out; rw [e, HGc.out] at h1
          cases h1
        (have HRw : Hid (wc.ownsRow w.heap.size 3 1 (.slice (some ⟨gt, 0, none⟩) tab.length tab.length) tab.length ((List.replicate tab.length 0).map encN)) := row_made (by have := HTl.out; rw [this.1]; have := pow8 HK.out.2.1 this.2; omega) HC.out.1 HC.out.2 (by have := HB.out.size; have := HGe.out.2; omega) HGc.out); have HIn : Hid (TabI N b m tab (List.replicate tab.length 0) 0) := TabI.start HK.out.1 b m tab; obtain ⟨k0, k1, k2, -⟩ := blk3 HFc.out; have hs3 := lt_of_block HFc.out; go_wp2_with fail; clear k0 k1 k2 hs3
        go_loopg [9] tab.length (fun g2 kk wr2 => ∃ k T, k ≤ tab.length ∧ g2 = tab.length - k ∧ kk = .int .i64 (k : Nat) ∧ Hid (TabI N b m tab T k) ∧ Hid (Kept (· ≠ gt) wc wr2) ∧ Hid (wr2.ownsRow w.heap.size 3 1 (.slice (some ⟨gt, 0, none⟩) tab.length tab.length) tab.length (T.map encN)))
        case atStart => exact ⟨0, _, by omega, by omega, rfl, HIn, Kept.refl _ _, HRw⟩
        case round =>
          obtain ⟨k, T, hkl, hg2, rfl, HI, HKe, HR⟩ := hrel; have HG2 : Hid (gk = tab.length - k) := hg2; clear hg2 HIn HRw; (have HBr : Hid (Below wa.heap.size wa wr) := HBc.out.trans (HKe.out.below HBc.out.size fun q hq e => by have := HGe.out.2; omega)); have HBw : Hid (Below w.heap.size w wr) := below_join HB.out HBr.out; have HFv : Hid (wr.heap[bv]? = some (.cells #[.string nm, .int .i64 (m : Nat), .slice (some ⟨gt, 0, none⟩) tab.length tab.length] 64 (0, 0))) := (HKe.out.block _ (lt_of_block HFc.out) HNe.out).trans HFc.out; obtain ⟨k0, k1, k2, -⟩ := blk3 HFv.out; have hs3 := lt_of_block HFv.out; by_cases hki : k < tab.length
          · have hkI : (k : Int) < (tab.length : Int) := by omega
            obtain ⟨x, hx⟩ : ∃ x, tab[k]? = some x := ⟨_, List.getElem?_eq_getElem hki⟩; obtain ⟨ad0, cp0, e0, hc1, hc2, hc3⟩ := HIl.out; (obtain ⟨tg, tf, e1, hcx⟩ := hc3 (fun e => by rw [e] at hki; simp at hki)); simp only [Value.slice.injEq, true_and] at e0; obtain ⟨rfl, rfl⟩ := e0; subst e1; have q0 := hcx k x hx; have v0 := (HBw.out.cell (lt_of_cell q0)).trans q0; have v1 := (HBw.out.cell (lt_of_cell HZ2.out)).trans HZ2.out; obtain ⟨a0, a1, a2, -⟩ := blk3 (below_keep HBr.out HS.out); have hs1 := lt_of_block (below_keep HBr.out HS.out); have HXk : Hid (tab[k]? = some x) := hx; have hmv := mvP_lt HK.out.1 b m k; rw [← HTl.out.1] at hmv; (have HMv : Hid (∀ W, Below wr.heap.size wr W → Calls Try.prog 29 #[.int .i64 (k : Nat), .int .i64 (m : Nat), .pointer (some ⟨w.heap.size, 0, none⟩), .pointer (some ⟨w.heap.size + 1, 0, none⟩)] W fun e w' => e = .returned (.int .i64 (mvP N b m k : Nat)) ∧ Below W.heap.size W w') := fun W hW => move_any N b m k HK.out.1 HK.out.2.1 HK.out.2.2 HTl.out.2 (by have := HTl.out; have := pow8 HK.out.2.1 this.2; omega) w.heap.size (w.heap.size + 1) _ _ W (below_keep hW (below_keep HBr.out HS.out)) (below_keep hW (below_keep HBr.out HQ.out))); obtain ⟨mv, hmvE⟩ : ∃ mv, mv = mvP N b m k := ⟨_, rfl⟩; rw [← hmvE] at HMv hmv; have HME : Hid (mv = mvP N b m k) := hmvE; (have hmvI : (mv : Int) < (tab.length : Int) := by omega); have hxx := HTx.out _ (List.mem_of_getElem? hx); obtain ⟨xn, rfl⟩ := Int.eq_ofNat_of_zero_le hxx.1; (have hxnI : (xn : Int) < 8 := by have := hxx.2; have := HK.out.2.1; omega); (have hbI : (b : Int) ≤ 100 := by have := HK.out.2.2; omega); (have hN0 : ¬ N = 0 := by have := HK.out.1; omega); (have hNz : ¬ (N : Int) = 0 := by have := HK.out.1; omega); obtain ⟨c0, -⟩ := blk1 (below_keep HBr.out HQ.out); have hs4 := lt_of_block (below_keep HBr.out HQ.out); clear hxx; have HKi : Hid (k < tab.length) := hki; have hHg := HR.out; (have HFz : Hid (∀ j W, Below wr.heap.size wr W → W.frozen? ⟨gt, j, none⟩ = false) := fun j W hW => row_fz (rowM_up HR.out hW) j)
            obtain ⟨zo, hzo⟩ : ∃ z, wr.cell? ⟨gt, mv, none⟩ = some z := by
              (obtain ⟨g9, e9, h9⟩ := rowM_cells HR.out (by omega)); (have e10 : gt = g9 := by simpa using e9); have hl9 := HI.out.1; (have := h9 mv (encN (T[mv]'(by omega))) (by rw [List.getElem?_map, List.getElem?_eq_getElem (by omega)]; rfl)); rw [← e10, Nat.zero_add] at this; exact ⟨_, this⟩
            (have HGl : Hid (gt < wr.heap.size) := by have := HKe.out.size; have := lt_of_block HGc.out; show _ < _; omega); (have n1 : gt ≠ bv := fun e => HNe.out e.symm); have hgz : wa.heap.size ≤ gt := HGe.out.2; have hwz : w.heap.size + 1 < wa.heap.size := lt_of_block HQ.out; (have n2 : gt ≠ w.heap.size := by omega); (have n3 : gt ≠ w.heap.size + 1 := by omega); (have n4 : gt ≠ g := by have : g < w.heap.size := lt_of_cell HZ2.out; omega); (have n5 : gt ≠ tg := by have : tg < w.heap.size := lt_of_cell q0; omega); clear hx hcx hc3 hc1 hc2 q0 hki hkl hmvE hmv hHg hgz hwz; go_wp2_with fail
            go_region_held3 (fun w' => w'.cell? ⟨bv, 2, none⟩ = some (.slice (some ⟨gt, 0, none⟩) tab.length tab.length) ∧ w'.cell? ⟨bv, 1, none⟩ = some (.int .i64 (m : Nat)) ∧ w'.cell? ⟨w.heap.size, 1, none⟩ = some (.slice (some ⟨g, off, none⟩) s.funs.length cf) ∧ w'.cell? ⟨g, off + i * 3 + 2, none⟩ = some (.slice (some ⟨tg, tf, none⟩) tab.length cq) ∧ w'.cell? ⟨tg, tf + k, none⟩ = some (.int .i64 (xn : Nat)) ∧ w'.cell? ⟨w.heap.size + 1, 0, none⟩ = some (.int .i64 (b : Nat)) ∧ w'.cell? ⟨w.heap.size, 0, none⟩ = some (.int .i64 (N : Nat))) (first | go_keep | (refine ⟨?_, ?_, ?_, ?_, ?_, ?_, ?_⟩ <;> (rw [far_cellR (by assumption)]; assumption)))
              (first
               | (go_at_call 29
                  refine (HMv.out _ (Below.refl _ _).drew).mono ?_; rintro e w5 ⟨rfl, hb5⟩
                  have d1 := (hb5.cell (lt_of_cell k1)).trans k1; have d2 := (hb5.cell (lt_of_cell k2)).trans k2; have d3 := (hb5.cell (lt_of_cell a1)).trans a1; have d4 := (hb5.cell (lt_of_cell v1)).trans v1; have d5 := (hb5.cell (lt_of_cell v0)).trans v0; have d8 := (hb5.cell (lt_of_cell hzo)).trans hzo; have d9 := HFz.out mv w5 ((Below.refl _ _).drew.trans (hb5.mono (Nat.le_refl _))); have d10 := lt_of_cell d8; have HK5 : Hid (Kept (· ≠ gt) wc w5) := HKe.out.trans ⟨hb5.os, hb5.tape, hb5.output, hb5.size, fun q hq _ => hb5.block q hq⟩; have HR5 : Hid (w5.ownsRow w.heap.size 3 1 (.slice (some ⟨gt, 0, none⟩) tab.length tab.length) tab.length (T.map encN)) := rowM_move HR.out fun q cur _ hh => hb5.block q (lt_of_block hh); have d6 := (hb5.cell (lt_of_cell c0)).trans c0; have d7 := (hb5.cell (lt_of_cell a0)).trans a0)
               | fail)
            (have HKn : Hid (Kept (· ≠ gt) wc (w5.setCell ⟨gt, mv, none⟩ (.int .i64 ((((xn : Nat) : Int) + (b : Int)) % (N : Int))))) := HK5.out.setCell (p := ⟨gt, mv, none⟩) (fun _ h => h rfl) _)
            have HRn : Hid ((w5.setCell ⟨gt, mv, none⟩ (.int .i64 ((((xn : Nat) : Int) + (b : Int)) % (N : Int)))).ownsRow w.heap.size 3 1 (.slice (some ⟨gt, 0, none⟩) tab.length tab.length) tab.length ((T.set mv ((((xn : Nat) : Int) + (b : Int)) % (N : Int))).map encN)) := by
              have h9 := row_put HR5.out mv (.int .i64 ((((xn : Nat) : Int) + (b : Int)) % (N : Int))); show World.ownsRow _ _ _ _ _ _ _; rw [List.map_set]; exact h9
            have HIn : Hid (TabI N b m tab (T.set mv ((((xn : Nat) : Int) + (b : Int)) % (N : Int))) (k + 1)) := by
              have h9 := TabI.step HK.out.1 HI.out HTl.out.1 HXk.out; rw [← HME.out] at h9; exact h9
            clear k0 k1 k2 hs3 v0 v1 a0 a1 a2 hs1 hzo n1 n2 n3 n4 n5; go_wp2_with fail
            go_roundg (tab.length - (k + 1))
            case measure => have := HG2.out; have := HKi.out; omega
            case rel => exact ⟨k + 1, _, HKi.out, rfl, by go_num, HIn, HKn, HRn⟩
          · obtain rfl : k = tab.length := by omega
            (have hge : ¬ (tab.length : Int) < (tab.length : Int) := by omega); obtain ⟨l2, ad, c, us, hq5, hown, hare, hfns⟩ := HU.out; have HQ5 : Hid (wr.heap[w.heap.size + 1 + 1 + 1]? = some (.cells #[.int .i64 (N : Nat), .slice ad l2.length c, .slice none 0 0] 25 (0, 0))) := below_keep HBr.out hq5; have HOw : Hid (wr.ownsRow w.heap.size 64 3 (.slice ad l2.length c) l2.length us) := rowM_up hown HBr.out; (have HAr : Hid (FnsAre w.heap.size wr us l2) := hare.move fun q cur _ hh => HBr.out.block q (lt_of_block hh)); have HFn : Hid (FnsT N b (s.funs.take i) l2) := hfns; (have hl2 : l2.length = i := by have h9 := FnsT.len hfns; rw [List.length_take] at h9; have := HLt.out; omega); (have HL2 : Hid (l2.length ≤ 10) := by have := HTe.out.1; have := HLt.out; show _ ≤ _; omega); (have hl2I : (l2.length : Int) ≤ 10 := by have := HL2.out; omega); obtain ⟨o0, o1, o2, -⟩ := blk3 HQ5.out; have hs5 := lt_of_block HQ5.out; obtain ⟨i0, hi0, hz0, hz1, hz2⟩ := infoFn; clear hq5 hown hare hfns hl2 hki hkl
            go_wp2_with (first
              | (at_builtin
                 have hown := rowM_up HOw.out ((Below.refl _ wr).alloc (Nat.le_refl _) (.cells #[.string nm, .int .i64 (m : Nat), .slice (some ⟨gt, 0, none⟩) tab.length tab.length] 64 (0, 0))); have hbs := HBw.out.size; (refine wpList_appG rfl _ _ 22 rfl w.heap.size 64 i0 (.agg #[.string ⟨#[]⟩, .int .i64 0, .slice none 0 0]) 3 48 Try.underlying22 hi0 hz0 hz1 hz2 rfl (by decide) ad l2.length c us rfl hown (some ⟨wr.heap.size, 0, none⟩) 1 1 [.string nm, .int .i64 (m : Nat), .slice (some ⟨gt, 0, none⟩) tab.length tab.length] rfl rfl (fun _ => ⟨wr.heap.size, 0, rfl, fun j u hu => ?_⟩) ?_ (by have := HL2.out; unfold maxLen; omega) (by have := HL2.out; omega) (by rw [World.size_alloc]; omega) ?_)
                 · rw [Nat.zero_add, blk_cell (blk_new wr _)]
                   simpa using hu
                 · intro u hu
                   simp at hu
                   rcases hu with rfl | rfl | rfl <;> rfl
                 intro ad3 cp3 w3 hown3 hk3; have HO3 : Hid (w3.ownsRow w.heap.size 64 3 (.slice ad3 (l2.length + 1) cp3) (l2.length + 1) (us ++ [.string nm, .int .i64 (m : Nat), .slice (some ⟨gt, 0, none⟩) tab.length tab.length])) := hown3; (have HB3 : Hid (Below w.heap.size w w3) := kept_row (HBw.out.alloc hbs _) (by rw [World.size_alloc]; omega) hown hk3)
                 have HK3 : Hid (∀ (q : Nat) (cur : Array Value) (T : TypeId), T ≠ 64 → wr.heap[q]? = some (.cells cur T (0, 0)) → w3.heap[q]? = wr.heap[q]?) := by
                   intro q cur T hT hq; have h1 : (wr.alloc (.cells #[.string nm, .int .i64 (m : Nat), .slice (some ⟨gt, 0, none⟩) tab.length tab.length] 64 (0, 0))).heap[q]? = some (.cells cur T (0, 0)) := alloc_keep hq _; rw [hk3.block q (lt_of_block h1) (rowM_ne hown h1 hT), h1, hq]
                 (have HQ6 : Hid (w3.heap[w.heap.size + 1 + 1 + 1]? = some (.cells #[.int .i64 (N : Nat), .slice ad l2.length c, .slice none 0 0] 25 (0, 0))) := (HK3.out _ _ _ (by decide) HQ5.out).trans HQ5.out); clear o0 o1 o2 hs5 k0 k1 k2 hs3; obtain ⟨o0, o1, o2, o3⟩ := blk3 HQ6.out; have hs5 := lt_of_block HQ6.out; obtain ⟨F, hFe⟩ : ∃ F, w3.setCell ⟨w.heap.size + 1 + 1 + 1, 1, none⟩ (.slice ad3 (l2.length + 1) cp3) = F := ⟨_, rfl⟩; (have HF5 : Hid (F.heap[w.heap.size + 1 + 1 + 1]? = some (.cells #[.int .i64 (N : Nat), .slice ad3 (l2.length + 1) cp3, .slice none 0 0] 25 (0, 0))) := by rw [← hFe]; exact set3N_1 HQ6.out _); (have HBF : Hid (Below w.heap.size w F) := by rw [← hFe]; exact HB3.out.setCell (p := ⟨w.heap.size + 1 + 1 + 1, 1, none⟩) (by show _ ≤ w.heap.size + 1 + 1 + 1; omega) _)
                 have HKG : Hid (∀ (q : Nat), w.heap.size + 1 + 1 + 1 ≠ q → F.heap[q]? = w3.heap[q]?) := fun q hq => by
                   rw [← hFe]; exact set_farR hq _
                 have HKF : Hid (∀ (q : Nat) (cur : Array Value) (T : TypeId), T ≠ 25 → w3.heap[q]? = some (.cells cur T (0, 0)) → F.heap[q]? = w3.heap[q]?) := fun q cur T hT hq => HKG.out q fun e => by
                   rw [← e, HQ6.out] at hq; simp only [Option.some.injEq, Obj.cells.injEq] at hq; exact hT hq.2.1.symm
                 clear hown hown3 hk3 hbs)
              | fail)
            have HUn : Hid (FuI w N b s.funs (i + 1) (.slice none 0 0) F) := by
              have hT := HI.out.1
              have hmv1 : ∀ (q : Nat) (cur : Array Value), wr.heap[q]? = some (.cells cur 3 (0, 0)) → F.heap[q]? = wr.heap[q]? := fun q cur hq => by
                (have h1 := HK3.out q cur _ (by decide) hq); (exact (HKF.out q cur _ (by decide) (h1.trans hq)).trans h1)
              (have hro := rowM_move HR.out fun q cur _ hh => hmv1 q cur hh); (have hare := HAr.out.move fun q cur _ hh => hmv1 q cur hh); (have hsn := FnsAre.snoc (f := ⟨nm, ((m : Nat) : Int), T⟩) hare HNm.out (ad := some ⟨gt, 0, none⟩) (cp := tab.length) (by show F.ownsRow _ _ _ (.slice _ T.length _) T.length _; rw [hT]; exact hro))
              dsimp only at hsn
              rw [hT] at hsn; refine ⟨l2 ++ [⟨nm, ((m : Nat) : Int), T⟩], ad3, cp3, _, ?_, ?_, hsn, ?_⟩
              · rw [List.length_append]; exact HF5.out
              · rw [List.length_append]; exact rowM_move HO3.out fun q cur _ hh => HKF.out q cur _ (by decide) hh
              · rw [take_more HFi.out]
                (exact FnsT.snoc (f := ⟨nm, ((m : Nat) : Int), tab⟩) (g := ⟨nm, ((m : Nat) : Int), T⟩) ⟨rfl, rfl, hT, HI.out.2.1, fun j x hx => HI.out.2.2 j x (List.getElem?_eq_some_iff.1 hx).1 hx⟩ HFn.out)
            have HSn : Hid (F.heap[w.heap.size]? = some (.cells #[.int .i64 (N : Nat), .slice (some ⟨g, off, none⟩) s.funs.length cf, .slice ap s.preds.length cp] 25 (0, 0))) := by
              have h0 := below_keep HBr.out HS.out; (exact (HKG.out _ (by omega)).trans ((HK3.out _ _ _ (by decide) h0).trans h0))
            have HQn : Hid (F.heap[w.heap.size + 1]? = some (.cells #[.int .i64 (b : Nat)] 3 (0, 0))) := by
              have h0 := below_keep HBr.out HQ.out; (exact (HKG.out _ (by omega)).trans ((HK3.out _ _ _ (by decide) h0).trans h0))
            have HZn : Hid (F.heap[w.heap.size + 1 + 1]? = some (.cells #[.int .i64 0, .slice none 0 0, .slice none 0 0] 25 (0, 0))) := by
              have h0 := below_keep HBr.out HZ.out; (exact (HKG.out _ (by omega)).trans ((HK3.out _ _ _ (by decide) h0).trans h0))
            go_roundg (s.funs.length - (i + 1))
            case measure => have := HG.out; have := HLt.out; omega
            case rel => exact ⟨i + 1, HLt.out, rfl, by go_num, HBF, HSn, HQn, HZn, HUn⟩
    · obtain rfl : i = s.funs.length := by omega
      (have hge : ¬ (s.funs.length : Int) < (s.funs.length : Int) := by omega); obtain ⟨l2, ad, c, us, hq5, hown, hare, hfns⟩ := HU.out; rw [List.take_length] at hfns; (have HU0 : Hid (PrI w N b s.funs s.preds 0 wr) := ⟨l2, ad, c, us, [], none, 0, [], hq5, hown, hare, hfns, ⟨rfl, Or.inl ⟨rfl, rfl⟩⟩, PdsAre.nil _ _, by rw [List.take_zero]; simp [PdsT]⟩); clear hq5 hown hare hfns hlt hile; go_wp2_with fail; clear a0 a1 a2 hs1 HU
      go_loopg [10] s.preds.length (fun gg c wr => ∃ i, i ≤ s.preds.length ∧ gg = s.preds.length - i ∧ c = .int .i64 (i : Nat) ∧ Hid (Below w.heap.size w wr) ∧ Hid (wr.heap[w.heap.size]? = some (.cells #[.int .i64 (N : Nat), .slice af s.funs.length cf, .slice ap s.preds.length cp] 25 (0, 0))) ∧ Hid (wr.heap[w.heap.size + 1]? = some (.cells #[.int .i64 (b : Nat)] 3 (0, 0))) ∧ Hid (wr.heap[w.heap.size + 1 + 1]? = some (.cells #[.int .i64 0, .slice none 0 0, .slice none 0 0] 25 (0, 0))) ∧ Hid (PrI w N b s.funs s.preds i wr))
      case atStart => exact ⟨0, by omega, by omega, rfl, HB, HS, HQ, HZ, HU0⟩
      case round =>
        clear HG HB HS HQ HZ HU0; obtain ⟨i, hile, hg, rfl, HB, HS, HQ, HZ, HU⟩ := hrel; have HG : Hid (gk = s.preds.length - i) := hg; clear hg; obtain ⟨a0, a1, a2, -⟩ := blk3 HS.out; have hs1 := lt_of_block HS.out; by_cases hlt : i < s.preds.length
        · obtain ⟨⟨nm, ar, tab⟩, hfi⟩ : ∃ x, s.preds[i]? = some x := ⟨_, List.getElem?_eq_getElem hlt⟩
          (obtain ⟨g, off, rfl, hc⟩ := HP.out (fun e => by rw [e] at hlt; simp at hlt)); obtain ⟨sl, cq, z0, z1, z2, hfr⟩ := hc i _ hfi; obtain ⟨m, hm3, har, htl⟩ := HPO.out _ (List.mem_of_getElem? hfi)
          dsimp only at z0 z1 z2 hfr har htl
          subst har; obtain ⟨sl', cq', e, hnm, hil⟩ := hfr; simp only [Value.agg.injEq, Array.mk.injEq, List.cons.injEq, Value.slice.injEq, and_true, true_and] at e; obtain ⟨rfl, rfl⟩ := e; have y0 := (HB.out.cell (lt_of_cell z0)).trans z0; have y1 := (HB.out.cell (lt_of_cell z1)).trans z1; have y2 := (HB.out.cell (lt_of_cell z2)).trans z2; (have hltI : (i : Int) < (s.preds.length : Int) := by omega); have HLt : Hid (i < s.preds.length) := hlt; have HNm : Hid (nm.size ≤ maxLen) := hnm; have HIl : Hid (BL w (.slice sl tab.length cq) tab) := hil; have HZ2 : Hid (w.cell? ⟨g, off + i * 3 + 2, none⟩ = some (.slice sl tab.length cq)) := z2; have HTl : Hid (tab.length = N ^ m ∧ m ≤ 3) := ⟨htl, hm3⟩; have HFi : Hid (s.preds[i]? = some (⟨nm, ((m : Nat) : Int), tab⟩ : PdD)) := hfi; (have hM5 : tab.length ≤ 512 := by rw [htl]; exact pow8 HK.out.2.1 hm3); (have hMI : (tab.length : Int) ≤ 512 := by omega); (obtain ⟨C, hC, hCl, hmk⟩ := mk_bools0 tab.length (by omega)); have HC : Hid (C.size = tab.length ∧ C.toList = (List.replicate tab.length false).map encO) := ⟨hC, hCl⟩; have hgl := lt_of_cell y2; clear hfi hc z0 z1 z2 htl hnm hil hC hCl hM5 hm3 hlt; go_wp2_with fail
          go_cut [11] from 80 to 137 (fun v wc => ∃ bv gt, v = .pointer (some ⟨bv, 0, none⟩) ∧ Hid (Below wr.heap.size wr wc) ∧ Hid (wr.heap.size ≤ bv ∧ wr.heap.size ≤ gt) ∧ Hid (wc.heap[bv]? = some (.cells #[.string nm, .int .i64 (m : Nat), .slice (some ⟨gt, 0, none⟩) tab.length tab.length] 67 (0, 0))) ∧ Hid (wc.heap[gt]? = some (.cells C 4 (0, 0))))
          case first =>
            go_region
            all_goals (go_wp2_with fail)
            all_goals go_meet
            all_goals first
              | exact ⟨wr.heap.size, wr.heap.size + 1, rfl, (al2b _ _ _).drew, ⟨by omega, by omega⟩, al20 _ _ _, al21 _ _ _⟩
              | exact ⟨wr.heap.size + 1, wr.heap.size, rfl, (al2b _ _ _).drew, ⟨by omega, by omega⟩, al21 _ _ _, al20 _ _ _⟩
          case rest =>
            obtain ⟨bv, gt, rfl, HBc, HGe, HFc, HGc⟩ := hcut; clear hmk a0 a1 a2 y0 y1 y2 hgl hs1; obtain ⟨wa, hwa⟩ : ∃ wa, wa = wr := ⟨_, rfl⟩; rw [← hwa] at HBc HGe HB HS HQ HZ HU; clear hwa
            have HNe : Hid (bv ≠ gt) := fun e => by
              have h1 := HFc.out; rw [e, HGc.out] at h1
              cases h1
            (have HRw : Hid (wc.ownsRow w.heap.size 4 1 (.slice (some ⟨gt, 0, none⟩) tab.length tab.length) tab.length ((List.replicate tab.length false).map encO)) := row_made (by have := HTl.out; rw [this.1]; have := pow8 HK.out.2.1 this.2; omega) HC.out.1 HC.out.2 (by have := HB.out.size; have := HGe.out.2; omega) HGc.out); have HIn : Hid (BitI N b m tab (List.replicate tab.length false) 0) := BitI.start N b m tab; obtain ⟨k0, k1, k2, -⟩ := blk3 HFc.out; have hs3 := lt_of_block HFc.out; go_wp2_with fail; clear k0 k1 k2 hs3
            go_loopg [12] tab.length (fun g2 kk wr2 => ∃ k T, k ≤ tab.length ∧ g2 = tab.length - k ∧ kk = .int .i64 (k : Nat) ∧ Hid (BitI N b m tab T k) ∧ Hid (Kept (· ≠ gt) wc wr2) ∧ Hid (wr2.ownsRow w.heap.size 4 1 (.slice (some ⟨gt, 0, none⟩) tab.length tab.length) tab.length (T.map encO)))
            case atStart => exact ⟨0, _, by omega, by omega, rfl, HIn, Kept.refl _ _, HRw⟩
            case round =>
              obtain ⟨k, T, hkl, hg2, rfl, HI, HKe, HR⟩ := hrel; have HG2 : Hid (gk = tab.length - k) := hg2; clear hg2 HIn HRw; (have HBr : Hid (Below wa.heap.size wa wr) := HBc.out.trans (HKe.out.below HBc.out.size fun q hq e => by have := HGe.out.2; omega)); have HBw : Hid (Below w.heap.size w wr) := below_join HB.out HBr.out; have HFv : Hid (wr.heap[bv]? = some (.cells #[.string nm, .int .i64 (m : Nat), .slice (some ⟨gt, 0, none⟩) tab.length tab.length] 67 (0, 0))) := (HKe.out.block _ (lt_of_block HFc.out) HNe.out).trans HFc.out; obtain ⟨k0, k1, k2, -⟩ := blk3 HFv.out; have hs3 := lt_of_block HFv.out; by_cases hki : k < tab.length
              · have hkI : (k : Int) < (tab.length : Int) := by omega
                obtain ⟨x, hx⟩ : ∃ x, tab[k]? = some x := ⟨_, List.getElem?_eq_getElem hki⟩; obtain ⟨ad0, cp0, e0, hc1, hc2, hc3⟩ := HIl.out; (obtain ⟨tg, tf, e1, hcx⟩ := hc3 (fun e => by rw [e] at hki; simp at hki)); simp only [Value.slice.injEq, true_and] at e0; obtain ⟨rfl, rfl⟩ := e0; subst e1; have q0 := hcx k x hx; have v0 := (HBw.out.cell (lt_of_cell q0)).trans q0; have v1 := (HBw.out.cell (lt_of_cell HZ2.out)).trans HZ2.out; obtain ⟨a0, a1, a2, -⟩ := blk3 (below_keep HBr.out HS.out); have hs1 := lt_of_block (below_keep HBr.out HS.out); have HXk : Hid (tab[k]? = some x) := hx; have hmv := mvP_lt HK.out.1 b m k; rw [← HTl.out.1] at hmv; (have HMv : Hid (∀ W, Below wr.heap.size wr W → Calls Try.prog 29 #[.int .i64 (k : Nat), .int .i64 (m : Nat), .pointer (some ⟨w.heap.size, 0, none⟩), .pointer (some ⟨w.heap.size + 1, 0, none⟩)] W fun e w' => e = .returned (.int .i64 (mvP N b m k : Nat)) ∧ Below W.heap.size W w') := fun W hW => move_any N b m k HK.out.1 HK.out.2.1 HK.out.2.2 HTl.out.2 (by have := HTl.out; have := pow8 HK.out.2.1 this.2; omega) w.heap.size (w.heap.size + 1) _ _ W (below_keep hW (below_keep HBr.out HS.out)) (below_keep hW (below_keep HBr.out HQ.out))); obtain ⟨mv, hmvE⟩ : ∃ mv, mv = mvP N b m k := ⟨_, rfl⟩; rw [← hmvE] at HMv hmv; have HME : Hid (mv = mvP N b m k) := hmvE; (have hmvI : (mv : Int) < (tab.length : Int) := by omega); have HKi : Hid (k < tab.length) := hki; have hHg := HR.out; (have HFz : Hid (∀ j W, Below wr.heap.size wr W → W.frozen? ⟨gt, j, none⟩ = false) := fun j W hW => row_fz (rowM_up HR.out hW) j)
                obtain ⟨zo, hzo⟩ : ∃ z, wr.cell? ⟨gt, mv, none⟩ = some z := by
                  (obtain ⟨g9, e9, h9⟩ := rowM_cells HR.out (by omega)); (have e10 : gt = g9 := by simpa using e9); have hl9 := HI.out.1; (have := h9 mv (encO (T[mv]'(by omega))) (by rw [List.getElem?_map, List.getElem?_eq_getElem (by omega)]; rfl)); rw [← e10, Nat.zero_add] at this; exact ⟨_, this⟩
                (have HGl : Hid (gt < wr.heap.size) := by have := HKe.out.size; have := lt_of_block HGc.out; show _ < _; omega); (have n1 : gt ≠ bv := fun e => HNe.out e.symm); have hgz : wa.heap.size ≤ gt := HGe.out.2; have hwz : w.heap.size + 1 < wa.heap.size := lt_of_block HQ.out; (have n2 : gt ≠ w.heap.size := by omega); (have n3 : gt ≠ w.heap.size + 1 := by omega); (have n4 : gt ≠ g := by have : g < w.heap.size := lt_of_cell HZ2.out; omega); (have n5 : gt ≠ tg := by have : tg < w.heap.size := lt_of_cell q0; omega); clear hx hcx hc3 hc1 hc2 q0 hki hkl hmvE hmv hHg hgz hwz; go_wp2_with fail
                go_region_held3 (fun w' => w'.cell? ⟨bv, 2, none⟩ = some (.slice (some ⟨gt, 0, none⟩) tab.length tab.length) ∧ w'.cell? ⟨bv, 1, none⟩ = some (.int .i64 (m : Nat)) ∧ w'.cell? ⟨w.heap.size, 2, none⟩ = some (.slice (some ⟨g, off, none⟩) s.preds.length cp) ∧ w'.cell? ⟨g, off + i * 3 + 2, none⟩ = some (.slice (some ⟨tg, tf, none⟩) tab.length cq) ∧ w'.cell? ⟨tg, tf + k, none⟩ = some (.bool x)) (first | go_keep | (refine ⟨?_, ?_, ?_, ?_, ?_⟩ <;> (rw [far_cellR (by assumption)]; assumption)))
                  (first
                   | (go_at_call 29
                      refine (HMv.out _ (Below.refl _ _).drew).mono ?_; rintro e w5 ⟨rfl, hb5⟩
                      have d1 := (hb5.cell (lt_of_cell k1)).trans k1; have d2 := (hb5.cell (lt_of_cell k2)).trans k2; have d3 := (hb5.cell (lt_of_cell a2)).trans a2; have d4 := (hb5.cell (lt_of_cell v1)).trans v1; have d5 := (hb5.cell (lt_of_cell v0)).trans v0; have d8 := (hb5.cell (lt_of_cell hzo)).trans hzo; have d9 := HFz.out mv w5 ((Below.refl _ _).drew.trans (hb5.mono (Nat.le_refl _))); have d10 := lt_of_cell d8; have HK5 : Hid (Kept (· ≠ gt) wc w5) := HKe.out.trans ⟨hb5.os, hb5.tape, hb5.output, hb5.size, fun q hq _ => hb5.block q hq⟩; have HR5 : Hid (w5.ownsRow w.heap.size 4 1 (.slice (some ⟨gt, 0, none⟩) tab.length tab.length) tab.length (T.map encO)) := rowM_move HR.out fun q cur _ hh => hb5.block q (lt_of_block hh))
                   | fail)
                (have HKn : Hid (Kept (· ≠ gt) wc (w5.setCell ⟨gt, mv, none⟩ (.bool x))) := HK5.out.setCell (p := ⟨gt, mv, none⟩) (fun _ h => h rfl) _)
                have HRn : Hid ((w5.setCell ⟨gt, mv, none⟩ (.bool x)).ownsRow w.heap.size 4 1 (.slice (some ⟨gt, 0, none⟩) tab.length tab.length) tab.length ((T.set mv x).map encO)) := by
                  have h9 := row_put HR5.out mv (.bool x); show World.ownsRow _ _ _ _ _ _ _; rw [List.map_set]; exact h9
                have HIn : Hid (BitI N b m tab (T.set mv x) (k + 1)) := by
                  have h9 := BitI.step HK.out.1 HI.out HTl.out.1 HXk.out; rw [← HME.out] at h9; exact h9
                clear k0 k1 k2 hs3 v0 v1 a0 a1 a2 hs1 hzo n1 n2 n3 n4 n5; go_wp2_with fail
                go_roundg (tab.length - (k + 1))
                case measure => have := HG2.out; have := HKi.out; omega
                case rel => exact ⟨k + 1, _, HKi.out, rfl, by go_num, HIn, HKn, HRn⟩
              · obtain rfl : k = tab.length := by omega
                (have hge : ¬ (tab.length : Int) < (tab.length : Int) := by omega); obtain ⟨lf, adf, cpf, uf, l2, ad, c, us, hq5, hownf, haref, hfnsf, hown, hare, hfns⟩ := HU.out; have HQ5 : Hid (wr.heap[w.heap.size + 1 + 1 + 1]? = some (.cells #[.int .i64 (N : Nat), .slice adf lf.length cpf, .slice ad l2.length c] 25 (0, 0))) := below_keep HBr.out hq5; have HOw : Hid (wr.ownsRow w.heap.size 67 3 (.slice ad l2.length c) l2.length us) := rowM_up hown HBr.out; (have HAr : Hid (PdsAre w.heap.size wr us l2) := hare.move fun q cur _ hh => HBr.out.block q (lt_of_block hh)); (have HFf : Hid (wr.ownsRow w.heap.size 64 3 (.slice adf lf.length cpf) lf.length uf ∧ FnsAre w.heap.size wr uf lf ∧ FnsT N b s.funs lf) := ⟨rowM_up hownf HBr.out, haref.move fun q cur _ hh => HBr.out.block q (lt_of_block hh), hfnsf⟩); have HFn : Hid (PdsT N b (s.preds.take i) l2) := hfns; (have hl2 : l2.length = i := by have h9 := PdsT.len hfns; rw [List.length_take] at h9; have := HLt.out; omega); (have HL2 : Hid (l2.length ≤ 10) := by have := HTe.out.2; have := HLt.out; show _ ≤ _; omega); (have hl2I : (l2.length : Int) ≤ 10 := by have := HL2.out; omega); obtain ⟨o0, o1, o2, -⟩ := blk3 HQ5.out; have hs5 := lt_of_block HQ5.out; obtain ⟨i0, hi0, hz0, hz1, hz2⟩ := infoPd; clear hq5 hown hare hfns hownf haref hfnsf hl2 hki hkl
                go_wp2_with (first
                  | (at_builtin
                     have hown := rowM_up HOw.out ((Below.refl _ wr).alloc (Nat.le_refl _) (.cells #[.string nm, .int .i64 (m : Nat), .slice (some ⟨gt, 0, none⟩) tab.length tab.length] 67 (0, 0))); have hbs := HBw.out.size; (refine wpList_appG rfl _ _ 23 rfl w.heap.size 67 i0 (.agg #[.string ⟨#[]⟩, .int .i64 0, .slice none 0 0]) 3 48 Try.underlying23 hi0 hz0 hz1 hz2 rfl (by decide) ad l2.length c us rfl hown (some ⟨wr.heap.size, 0, none⟩) 1 1 [.string nm, .int .i64 (m : Nat), .slice (some ⟨gt, 0, none⟩) tab.length tab.length] rfl rfl (fun _ => ⟨wr.heap.size, 0, rfl, fun j u hu => ?_⟩) ?_ (by have := HL2.out; unfold maxLen; omega) (by have := HL2.out; omega) (by rw [World.size_alloc]; omega) ?_)
                     · rw [Nat.zero_add, blk_cell (blk_new wr _)]
                       simpa using hu
                     · intro u hu
                       simp at hu
                       rcases hu with rfl | rfl | rfl <;> rfl
                     intro ad3 cp3 w3 hown3 hk3; have HO3 : Hid (w3.ownsRow w.heap.size 67 3 (.slice ad3 (l2.length + 1) cp3) (l2.length + 1) (us ++ [.string nm, .int .i64 (m : Nat), .slice (some ⟨gt, 0, none⟩) tab.length tab.length])) := hown3; (have HB3 : Hid (Below w.heap.size w w3) := kept_row (HBw.out.alloc hbs _) (by rw [World.size_alloc]; omega) hown hk3)
                     have HK3 : Hid (∀ (q : Nat) (cur : Array Value) (T : TypeId), T ≠ 67 → wr.heap[q]? = some (.cells cur T (0, 0)) → w3.heap[q]? = wr.heap[q]?) := by
                       intro q cur T hT hq; have h1 : (wr.alloc (.cells #[.string nm, .int .i64 (m : Nat), .slice (some ⟨gt, 0, none⟩) tab.length tab.length] 67 (0, 0))).heap[q]? = some (.cells cur T (0, 0)) := alloc_keep hq _; rw [hk3.block q (lt_of_block h1) (rowM_ne hown h1 hT), h1, hq]
                     (have HQ6 : Hid (w3.heap[w.heap.size + 1 + 1 + 1]? = some (.cells #[.int .i64 (N : Nat), .slice adf lf.length cpf, .slice ad l2.length c] 25 (0, 0))) := (HK3.out _ _ _ (by decide) HQ5.out).trans HQ5.out); clear o0 o1 o2 hs5 k0 k1 k2 hs3; obtain ⟨o0, o1, o2, o3⟩ := blk3 HQ6.out; have hs5 := lt_of_block HQ6.out; obtain ⟨F, hFe⟩ : ∃ F, w3.setCell ⟨w.heap.size + 1 + 1 + 1, 2, none⟩ (.slice ad3 (l2.length + 1) cp3) = F := ⟨_, rfl⟩; (have HF5 : Hid (F.heap[w.heap.size + 1 + 1 + 1]? = some (.cells #[.int .i64 (N : Nat), .slice adf lf.length cpf, .slice ad3 (l2.length + 1) cp3] 25 (0, 0))) := by rw [← hFe]; exact set3N_2 HQ6.out _); (have HBF : Hid (Below w.heap.size w F) := by rw [← hFe]; exact HB3.out.setCell (p := ⟨w.heap.size + 1 + 1 + 1, 2, none⟩) (by show _ ≤ w.heap.size + 1 + 1 + 1; omega) _)
                     have HKG : Hid (∀ (q : Nat), w.heap.size + 1 + 1 + 1 ≠ q → F.heap[q]? = w3.heap[q]?) := fun q hq => by
                       rw [← hFe]; exact set_farR hq _
                     have HKF : Hid (∀ (q : Nat) (cur : Array Value) (T : TypeId), T ≠ 25 → w3.heap[q]? = some (.cells cur T (0, 0)) → F.heap[q]? = w3.heap[q]?) := fun q cur T hT hq => HKG.out q fun e => by
                       rw [← e, HQ6.out] at hq; simp only [Option.some.injEq, Obj.cells.injEq] at hq; exact hT hq.2.1.symm
                     clear hown hown3 hk3 hbs)
                  | fail)
                have HUn : Hid (PrI w N b s.funs s.preds (i + 1) F) := by
                  have hT := HI.out.1
                  have hmv1 : ∀ (q : Nat) (cur : Array Value), wr.heap[q]? = some (.cells cur 4 (0, 0)) → F.heap[q]? = wr.heap[q]? := fun q cur hq => by
                    (have h1 := HK3.out q cur _ (by decide) hq); (exact (HKF.out q cur _ (by decide) (h1.trans hq)).trans h1)
                  (have hro := rowM_move HR.out fun q cur _ hh => hmv1 q cur hh); (have hare := HAr.out.move fun q cur _ hh => hmv1 q cur hh); (have hsn := PdsAre.snoc (f := ⟨nm, ((m : Nat) : Int), T⟩) hare HNm.out (ad := some ⟨gt, 0, none⟩) (cp := tab.length) (by show F.ownsRow _ _ _ (.slice _ T.length _) T.length _; rw [hT]; exact hro))
                  dsimp only at hsn
                  rw [hT] at hsn
                  have hmvT : ∀ (q : Nat) (cur : Array Value) (T : TypeId), T ≠ 67 → T ≠ 25 → wr.heap[q]? = some (.cells cur T (0, 0)) → F.heap[q]? = wr.heap[q]? := fun q cur T hT hT2 hq => by
                    have h1 := HK3.out q cur _ hT hq; exact (HKF.out q cur _ hT2 (h1.trans hq)).trans h1
                  (refine ⟨lf, adf, cpf, uf, l2 ++ [⟨nm, ((m : Nat) : Int), T⟩], ad3, cp3, _, ?_, rowM_move HFf.out.1 fun q cur _ hh => hmvT q cur _ (by decide) (by decide) hh, HFf.out.2.1.move fun q cur _ hh => hmvT q cur _ (by decide) (by decide) hh, HFf.out.2.2, ?_, hsn, ?_⟩)
                  · rw [List.length_append]; exact HF5.out
                  · rw [List.length_append]; exact rowM_move HO3.out fun q cur _ hh => HKF.out q cur _ (by decide) hh
                  · rw [take_more HFi.out]
                    (exact PdsT.snoc (f := ⟨nm, ((m : Nat) : Int), tab⟩) (g := ⟨nm, ((m : Nat) : Int), T⟩) ⟨rfl, rfl, hT, fun j x hx => HI.out.2 j x (List.getElem?_eq_some_iff.1 hx).1 hx⟩ HFn.out)
                have HSn : Hid (F.heap[w.heap.size]? = some (.cells #[.int .i64 (N : Nat), .slice af s.funs.length cf, .slice (some ⟨g, off, none⟩) s.preds.length cp] 25 (0, 0))) := by
                  have h0 := below_keep HBr.out HS.out; (exact (HKG.out _ (by omega)).trans ((HK3.out _ _ _ (by decide) h0).trans h0))
                have HQn : Hid (F.heap[w.heap.size + 1]? = some (.cells #[.int .i64 (b : Nat)] 3 (0, 0))) := by
                  have h0 := below_keep HBr.out HQ.out; (exact (HKG.out _ (by omega)).trans ((HK3.out _ _ _ (by decide) h0).trans h0))
                have HZn : Hid (F.heap[w.heap.size + 1 + 1]? = some (.cells #[.int .i64 0, .slice none 0 0, .slice none 0 0] 25 (0, 0))) := by
                  have h0 := below_keep HBr.out HZ.out; (exact (HKG.out _ (by omega)).trans ((HK3.out _ _ _ (by decide) h0).trans h0))
                go_roundg (s.preds.length - (i + 1))
                case measure => have := HG.out; have := HLt.out; omega
                case rel => exact ⟨i + 1, HLt.out, rfl, by go_num, HBF, HSn, HQn, HZn, HUn⟩
        · obtain rfl : i = s.preds.length := by omega
          (have hge : ¬ (s.preds.length : Int) < (s.preds.length : Int) := by omega); obtain ⟨lf, adf, cpf, uf, l2, ad, c, us, hq5, hownf, haref, hfnsf, hown, hare, hfns⟩ := HU.out; rw [List.take_length] at hfns; have HQ5 : Hid (wr.heap[w.heap.size + 1 + 1 + 1]? = some (.cells #[.int .i64 (N : Nat), .slice adf lf.length cpf, .slice ad l2.length c] 25 (0, 0))) := hq5; have HFf : Hid (wr.ownsRow w.heap.size 64 3 (.slice adf lf.length cpf) lf.length uf ∧ FnsAre w.heap.size wr uf lf ∧ FnsT N b s.funs lf) := ⟨hownf, haref, hfnsf⟩; have HPf : Hid (wr.ownsRow w.heap.size 67 3 (.slice ad l2.length c) l2.length us ∧ PdsAre w.heap.size wr us l2 ∧ PdsT N b s.preds l2) := ⟨hown, hare, hfns⟩; obtain ⟨o0, o1, o2, -⟩ := blk3 HQ5.out; obtain ⟨t0, t1, t2, t3, t4, t5⟩ := blk3 HZ.out; have hs5 := lt_of_block HQ5.out; have hs6 := lt_of_block HZ.out; clear hq5 hown hare hfns hownf haref hfnsf hlt hile; go_wp2_with fail; have f2 := set3M HZ.out (.int .i64 (N : Nat)) (.slice adf lf.length cpf) (.slice ad l2.length c); (have b2 := below3R (b := w.heap.size + 1 + 1) (by omega) HB.out (.int .i64 (N : Nat)) (.slice adf lf.length cpf) (.slice ad l2.length c))
          have hfar : ∀ (q : Nat) (cur : Array Value) (T : TypeId), T ≠ 25 → wr.heap[q]? = some (.cells cur T (0, 0)) → (((wr.setCell ⟨w.heap.size + 1 + 1, 0, none⟩ (.int .i64 (N : Nat))).setCell ⟨w.heap.size + 1 + 1, 1, none⟩ (.slice adf lf.length cpf)).setCell ⟨w.heap.size + 1 + 1, 2, none⟩ (.slice ad l2.length c)).heap[q]? = wr.heap[q]? := fun q cur T hT hq => far3R (fun e => by
            rw [e, HZ.out] at hq; simp only [Option.some.injEq, Obj.cells.injEq] at hq
            exact hT hq.2.1.symm) _ _ _
          generalize World.setCell _ _ _ = F at f2 b2 hfar ⊢; clear t0 t1 t2 t3 t4 t5 o0 o1 o2; obtain ⟨e1, e2, e3, -⟩ := blk3 f2; (have r1 := rowM_move HFf.out.1 fun q cur _ hh => hfar q cur _ (by decide) hh); (have r2 := HFf.out.2.1.move fun q cur _ hh => hfar q cur _ (by decide) hh); (have r3 := rowM_move HPf.out.1 fun q cur _ hh => hfar q cur _ (by decide) hh); (have r4 := HPf.out.2.1.move fun q cur _ hh => hfar q cur _ (by decide) hh); (have hNt : s.n.toNat = N := by rw [HNs.out]; rfl); (have HEnd : Hid (RnEnd s b w (.returned (.agg #[.int .i64 (N : Nat), .slice adf lf.length cpf, .slice ad l2.length c])) F) := ⟨⟨(N : Int), lf, l2⟩, _, rfl, ⟨HNs.out.symm, by rw [hNt]; exact HFf.out.2.2, by rw [hNt]; exact HPf.out.2.2⟩, ⟨adf, cpf, ad, c, rfl, r2.fnl r1, r4.pdl r3⟩, b2⟩); (exact bodyPost_ret (v := .agg #[.int .i64 (N : Nat), .slice adf lf.length cpf, .slice ad l2.length c]) (by simp [results, Try.results13, go_sem, e1, e2, e3]) rfl HEnd.out)
end Go.Proofs.Ytblodnpfckflaak
