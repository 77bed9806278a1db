/- Texts of one proof, one behind the other: KY4, KY5. -/
import Derived.Test.YtalnljnincnbdacGreatB32
import Derived.Test.YtalnljnincnbdacGreatB19
import Derived.Test.YtalnljnincnbdacGreatB28
import Derived.Test.YtalnljnincnbdacGreatB18
import Derived.Test.YtalnljnincnbdacGreatB06
import Derived.Test.YtalnljnincnbdacGreatB35
/- What a search's end says of the sequent: plain. -/
namespace Go.Proofs.YtalnljnincnbdacGreat

theorem size_in {g : Fm} : ∀ {ks : List Fm}, g ∈ ks → g.size ≤ Fm.sizes ks
  | k :: ks, h => by
    rw [Fm.sizes]
    rcases List.mem_cons.1 h with e | e
    · subst e; omega
    · have := size_in e
      omega
theorem pc_kid {k : Int} {n : ByteArray} {ks : List Fm} (h : (Fm.mk k n ks).pcode.1 = 0) {g : Fm} (hg : g ∈ ks) : g.pcode.1 = 0 := by
  obtain ⟨-, hp, -⟩ := pcode_ok h; obtain ⟨hf, hs⟩ := pcode_fine h; have hp' := (mIdx_no _ _).1 hp; obtain ⟨i, hi⟩ := List.getElem?_of_mem hg; have hfg := hf.kid i g hi
  have hsg : g.size ≤ 200 := by
    rw [Fm.size] at hs; have := size_in hg; omega
  (rw [pcode_of (chk_fine g 0 hfg (by omega)) ((mIdx_no _ _).2 fun x hx => hp' x ?_)]); rw [allN]; refine List.mem_cons_of_mem _ ?_; clear hp hp' hf hs h hi hfg hsg
  induction ks with
  | nil => cases hg
  | cons y ys ih =>
    rw [allNs]
    rcases List.mem_cons.1 hg with e | e
    · subst e; exact List.mem_append_left _ hx
    · exact List.mem_append_right _ (ih e)
theorem nmsT_kid {k : Int} {n : ByteArray} {ks : List Fm} {g : Fm} (hg : g ∈ ks) {t : List UInt8} (ht : t ∈ nmsT g) : t ∈ nmsT (.mk k n ks) := by
  unfold nmsT at *; obtain ⟨b, hb, rfl⟩ := List.mem_map.1 ht; obtain ⟨ks', hk⟩ := (nmsOf_mem _ _).1 hb; refine List.mem_map.2 ⟨b, (nmsOf_mem _ _).2 ⟨ks', ?_⟩, rfl⟩; rw [allN]; refine List.mem_cons_of_mem _ ?_; clear ht hb
  induction ks with
  | nil => cases hg
  | cons y ys ih =>
    rw [allNs]
    rcases List.mem_cons.1 hg with e | e
    · subst e; exact List.mem_append_left _ hk
    · exact List.mem_append_right _ (ih e)
/-- Plain formulas with such names alone. -/
def PhS (S : List UInt8 → Prop) (f : Fm) : Prop := f.pcode.1 = 0 ∧ ∀ t ∈ nmsT f, S t
theorem closed_ph (S : List UInt8 → Prop) : Closed (PhS S) := ⟨fun _ h => (pcode_fine h.1).1, fun _ h => by have := (pcode_fine h.1).2; omega, fun _ _ _ h _ hg => ⟨pc_kid h.1 hg, fun t ht => h.2 t (nmsT_kid hg ht)⟩⟩
theorem side_items {fs : List Fm} {il ir : List Nat} {l r : List Fm} (hl : ItsL fs il l) (hr : ItsR fs ir r) : sideL fs (il ++ ir) = l ∧ sideR fs (il ++ ir) = r ∧ ∀ i ∈ il ++ ir, i / 2 < fs.length := by
  have e1 : ∀ i ∈ il, ∃ n, i = 2 * n ∧ n < fs.length := fun i hi => by
    obtain ⟨j, hj⟩ := List.getElem?_of_mem hi; (have hlt : j < l.length := by rw [← hl.1]; exact (List.getElem?_eq_some_iff.1 hj).1); obtain ⟨n, h1, h2⟩ := hl.2 j _ (List.getElem?_eq_getElem hlt); rw [hj] at h1; exact ⟨n, Option.some.inj h1, (List.getElem?_eq_some_iff.1 h2).1⟩
  have e2 : ∀ i ∈ ir, ∃ n, i = 2 * n + 1 ∧ n < fs.length := fun i hi => by
    obtain ⟨j, hj⟩ := List.getElem?_of_mem hi; (have hlt : j < r.length := by rw [← hr.1]; exact (List.getElem?_eq_some_iff.1 hj).1); obtain ⟨n, h1, h2⟩ := hr.2 j _ (List.getElem?_eq_getElem hlt); rw [hj] at h1; exact ⟨n, Option.some.inj h1, (List.getElem?_eq_some_iff.1 h2).1⟩
  have f1 : il.filter (fun i => !itR i) = il := List.filter_eq_self.2 fun i hi => by
    obtain ⟨n, rfl, -⟩ := e1 i hi; rw [(itR_two n).1]; rfl
  have f2 : il.filter itR = [] := List.filter_eq_nil_iff.2 fun i hi => by
    obtain ⟨n, rfl, -⟩ := e1 i hi; rw [(itR_two n).1]; simp
  have f3 : ir.filter (fun i => !itR i) = [] := List.filter_eq_nil_iff.2 fun i hi => by
    obtain ⟨n, rfl, -⟩ := e2 i hi; rw [(itR_two n).2]; simp
  have f4 : ir.filter itR = ir := List.filter_eq_self.2 fun i hi => by
    obtain ⟨n, rfl, -⟩ := e2 i hi; exact (itR_two n).2
  (refine ⟨?_, ?_, fun i hi => ?_⟩)
  · unfold sideL
    rw [List.filter_append, f1, f3, List.append_nil]; apply List.ext_getElem?; intro j; rw [List.getElem?_map]
    rcases Nat.lt_or_ge j l.length with h | h
    · obtain ⟨n, h1, h2⟩ := hl.2 j _ (List.getElem?_eq_getElem h)
      rw [h1, List.getElem?_eq_getElem h, ← h2]; show some (fs.getD (2 * n / 2) zeroF) = _; (rw [show 2 * n / 2 = n by omega, getD_lt (List.getElem?_eq_some_iff.1 h2).1])
    · rw [List.getElem?_eq_none h, List.getElem?_eq_none (by rw [hl.1]; exact h)]; rfl
  · unfold sideR
    rw [List.filter_append, f2, f4, List.nil_append]; apply List.ext_getElem?; intro j; rw [List.getElem?_map]
    rcases Nat.lt_or_ge j r.length with h | h
    · obtain ⟨n, h1, h2⟩ := hr.2 j _ (List.getElem?_eq_getElem h)
      rw [h1, List.getElem?_eq_getElem h, ← h2]; show some (fs.getD ((2 * n + 1) / 2) zeroF) = _; (rw [show (2 * n + 1) / 2 = n by omega, getD_lt (List.getElem?_eq_some_iff.1 h2).1])
    · rw [List.getElem?_eq_none h, List.getElem?_eq_none (by rw [hr.1]; exact h)]; rfl
  · rcases List.mem_append.1 hi with h | h
    · obtain ⟨n, rfl, hn⟩ := e1 i h
      omega
    · obtain ⟨n, rfl, hn⟩ := e2 i h
      omega
/-- Names that speak against a sequent. -/
structure Against (l r : List Fm) (L : List (List UInt8)) : Prop where
  left : ∀ f ∈ l, tv (fun t => decide (t ∈ L)) f = true
  right : ∀ f ∈ r, tv (fun t => decide (t ∈ L)) f = false
  up : Rising L
  names : ∀ t ∈ L, isNm t = true
  occ : ∀ t ∈ L, ∃ f ∈ l ++ r, t ∈ nmsT f
theorem cntN_mem {ps : List PartM} {br : List Nat} {u : List UInt8} : u ∈ cntN ps br ↔ ∃ i p, i ∈ br ∧ ps[i / 2]? = some p ∧ p.kind = 1 ∧ itR i = false ∧ p.name.data.toList = u := by
  unfold cntN; rw [List.mem_filterMap]
  constructor
  · rintro ⟨i, hi, h⟩
    split at h
    · rename_i p hp
      split at h
      · rename_i hc
        exact ⟨i, p, hi, hp, hc.1, hc.2, Option.some.inj h⟩
      · cases h
    · cases h
  · rintro ⟨i, p, hi, hp, hk, hr, hu⟩
    refine ⟨i, hi, ?_⟩; rw [hp]; simp only; rw [if_pos ⟨hk, hr⟩, hu]
theorem srt_mem {l : List (List UInt8)} {t : List UInt8} : t ∈ srt l ↔ t ∈ l := List.mem_mergeSort
theorem srt_rising {l : List (List UInt8)} (h : l.Nodup) : Rising (srt l) := by
  have hs : (srt l).Pairwise (fun a b => decide (a ≤ b) = true) :=
    List.pairwise_mergeSort (fun a b c h1 h2 => by
      simp only [decide_eq_true_eq] at *
      exact List.le_trans h1 h2) (fun a b => by
      simp only [Bool.or_eq_true, decide_eq_true_eq]
      exact List.le_total a b) _
  have hn : (srt l).Nodup := (List.mergeSort_perm l _).nodup_iff.2 h; have := List.Pairwise.and hs hn; (refine List.Pairwise.imp (fun {a b} hab => ?_) this); obtain ⟨h1, h2⟩ := hab
  rcases lt_tot a b with h | h | h
  · exact h
  · exact absurd h h2
  · exact absurd (of_decide_eq_true h1) (List.not_le.2 h)
theorem open_against {ps : List PartM} {fs : List Fm} (h : TabOk ps fs) (hpc : ∀ g ∈ fs, g.pcode.1 = 0) {wh br is : List Nat} (ho : OpenS ps wh) (hm : ∀ i, i ∈ br ↔ wh.getD i 0 ≠ 0) (hnd : br.Nodup) (hlen : wh.length = 2 * ps.length) (his : ∀ i ∈ is, wh.getD i 0 ≠ 0) (hS : ∀ g ∈ fs, ∀ t ∈ nmsT g, ∃ f ∈ sideL fs is ++ sideR fs is, t ∈ nmsT f) : Against (sideL fs is) (sideR fs is) (srt (cntN ps br)) := by
  (have hpl : ∀ n, n < fs.length → Pl (fs.getD n zeroF) := fun n hn => pl_plain (hpc _ (List.mem_of_getElem? (getD_lt hn))))
  have hlt : ∀ i, wh.getD i 0 ≠ 0 → i / 2 < fs.length := fun i hi => by
    rcases Nat.lt_or_ge i wh.length with h1 | h1
    · rw [← h.len]; omega
    · rw [List.getD_eq_getElem?_getD, List.getElem?_eq_none h1] at hi
      exact absurd rfl hi
  have hname : ∀ n p, ps[n]? = some p → p.kind = 1 → fs.getD n zeroF = .mk 1 p.name [] := fun n p hp hk => by
    (have hnl : n < fs.length := by rw [← h.len]; exact (List.getElem?_eq_some_iff.1 hp).1)
    rcases part_forms h hp (hpl n hnl) with ⟨-, -, hf⟩ | ⟨hk2, -⟩ | ⟨hk2, -⟩ | ⟨hk2, -⟩ | ⟨hk2, -⟩
    · exact hf
    all_goals omega
  have hrow := open_row h (fun i => wh.getD i 0 ≠ 0) (fun i hi => ⟨hlt i hi, hpl _ (hlt i hi)⟩) ho.ways ho.calm ho.far (fun t => decide (t ∈ srt (cntN ps br))) (fun u => by
    rw [decide_eq_true_eq, srt_mem, cntN_mem]
    constructor
    · rintro ⟨i, p, hi, hp, hk, hr, hu⟩
      refine ⟨i / 2, p, hp, hk, hu, ?_⟩
      have : 2 * (i / 2) = i := by
        rcases it_cases i with e | e
        · omega
        · rw [e, (itR_two _).2] at hr
          cases hr
      rw [this]; exact (hm i).1 hi
    · rintro ⟨n, p, hp, hk, hu, hs⟩
      exact ⟨2 * n, p, (hm _).2 hs, by rw [show 2 * n / 2 = n by omega]; exact hp, hk, (itR_two n).1, hu⟩)
  (have hall := row_invalid (fs := fs) (is := is) (t := fun t => decide (t ∈ srt (cntN ps br))) fun x hx => hrow (x / 2 + 1) x (by omega) (his x hx)); (refine ⟨hall.1, hall.2, srt_rising ?_, fun t ht => ?_, fun t ht => ?_⟩)
  · unfold cntN
    rw [List.Nodup, List.pairwise_filterMap]; refine List.Pairwise.imp_of_mem ?_ hnd; intro i j hi hj hij u hu v hv e; subst e
    have ri : ∀ i, i ∈ br → (match ps[i / 2]? with | some p => if p.kind = 1 ∧ itR i = false then some p.name.data.toList else none | none => none) = some u → i = 2 * (i / 2) ∧ ∃ p, ps[i / 2]? = some p ∧ p.kind = 1 ∧ p.name.data.toList = u := fun i _ h => by
      split at h
      · rename_i p hp
        split at h
        · rename_i hc
          refine ⟨?_, p, hp, hc.1, Option.some.inj h⟩
          rcases it_cases i with e | e
          · exact e
          · have := hc.2
            rw [e, (itR_two _).2] at this
            cases this
        · cases h
      · cases h
    obtain ⟨a1, p, a2, a3, a4⟩ := ri i hi hu; obtain ⟨b1, q, b2, b3, b4⟩ := ri j hj hv; (have hnn : p.name = q.name := by apply ByteArray.ext; apply Array.ext'; rw [a4, b4]); (have := nodup_inj h.nodup (hlt i ((hm i).1 hi)) (hlt j ((hm j).1 hj)) (by rw [hname _ p a2 a3, hname _ q b2 b3, hnn])); (exact hij (by rw [a1, b1, this]))
  · obtain ⟨i, p, hi, hp, hk, hr, hu⟩ := cntN_mem.1 (srt_mem.1 ht)
    have hnl := hlt i ((hm i).1 hi); have hf := (pcode_fine (hpc _ (List.mem_of_getElem? (getD_lt hnl)))).1; rw [hname _ p hp hk] at hf
    rcases hf.forms with ⟨m, e, hn⟩ | e | e | ⟨c, g, hk, e, hg⟩ | ⟨c, g, g', hk, e, hg, hg'⟩
    · injection e with _ e _
      rw [← hu, e]; exact hn
    · injection e with e _ _; omega
    · injection e with e _ _; omega
    · injection e with e _ _; omega
    · injection e with e _ _; omega
  · obtain ⟨i, p, hi, hp, hk, hr, hu⟩ := cntN_mem.1 (srt_mem.1 ht)
    have hnl := hlt i ((hm i).1 hi); refine hS _ (List.mem_of_getElem? (getD_lt hnl)) t ?_; rw [hname _ p hp hk]; unfold nmsT; refine List.mem_map.2 ⟨p.name, (nmsOf_mem _ _).2 ⟨[], ?_⟩, hu⟩; rw [allN]; exact List.mem_cons_self
theorem Against.invalid {l r : List Fm} {L : List (List UInt8)} (h : Against l r L) : ¬ Valid l r := not_valid ⟨h.left, h.right⟩
end Go.Proofs.YtalnljnincnbdacGreat
/- Walks: written. -/
namespace Go.Proofs.YtalnljnincnbdacGreat
open Go.RowKit

def WnPost (x : Fx) (w : World) (p : Plan) (is : List Nat) (e : Ending) (w' : World) : Prop :=
  ∃ (P : Pf) (pv : Value) (fits : Bool), e = .returned (.tuple #[pv, .bool fits]) ∧ PRp (w.heap.size ≤ ·) w' P pv ∧ Below w.heap.size w w' ∧ (fits = true → WPf x.ps x.fs 1 p is P ∧ P.size ≤ 20000) ∧ (fits = false → pv = .agg #[.string ⟨#[]⟩, .int .i64 0, .string ⟨#[]⟩, .slice none 0 0, .slice none 0 0, .slice none 0 0, .slice none 0 0] ∧ ¬ Roomy (x.nods is) 0 0 1)
theorem rowOf10 (l : List Value) (h0 : l.length = 10) : ∃ x0 x1 x2 x3 x4 x5 x6 x7 x8 x9, l = [x0, x1, x2, x3, x4, x5, x6, x7, x8, x9] := by
  obtain ⟨x0, l1, e0, h1⟩ := cons_len h0; obtain ⟨x1, l2, e1, h2⟩ := cons_len h1; obtain ⟨x2, l3, e2, h3⟩ := cons_len h2; obtain ⟨x3, l4, e3, h4⟩ := cons_len h3; obtain ⟨x4, l5, e4, h5⟩ := cons_len h4; obtain ⟨x5, l6, e5, h6⟩ := cons_len h5; obtain ⟨x6, l7, e6, h7⟩ := cons_len h6; obtain ⟨x7, l8, e7, h8⟩ := cons_len h7; obtain ⟨x8, l9, e8, h9⟩ := cons_len h8; obtain ⟨x9, l10, e9, h10⟩ := cons_len h9; have e10 : l10 = [] := List.length_eq_zero_iff.1 h10; subst e10 e9 e8 e7 e6 e5 e4 e3 e2 e1 e0; exact ⟨x0, x1, x2, x3, x4, x5, x6, x7, x8, x9, rfl⟩
/-- The writer's box. -/
structure StA (wr : World) (nw : Array Value) (l10 l11 : Bool) (y : Nat) (w : World) : Prop where
  below : Below wr.heap.size wr w
  box : l10 = true → wr.heap.size ≤ y ∧ w.heap[y]? = some (.cells (cond l11 nw #[.pointer none, .slice none 0 0, .bool false, .int .i64 0, .int .i64 0]) 162 (0, 0))
theorem StA.alloc {wr w : World} {nw : Array Value} {l10 l11 : Bool} {y : Nat} (h : StA wr nw l10 l11 y w) (e : l11 = false) : StA wr nw true l11 w.heap.size (w.alloc (.cells #[.pointer none, .slice none 0 0, .bool false, .int .i64 0, .int .i64 0] 162 (0, 0))) := by
  subst e; (exact ⟨below_more h.below _, fun _ => ⟨h.below.size, blk_new w _⟩⟩)
theorem StA.store {wr w : World} {v0 v1 v2 v3 v4 : Value} {l10 l11 : Bool} {y : Nat} (h : StA wr #[v0, v1, v2, v3, v4] l10 l11 y w) (e10 : l10 = true) (e : l11 = false) : StA wr #[v0, v1, v2, v3, v4] l10 true y (((((w.setCell ⟨y, 0, none⟩ v0).setCell ⟨y, 1, none⟩ v1).setCell ⟨y, 2, none⟩ v2).setCell ⟨y, 3, none⟩ v3).setCell ⟨y, 4, none⟩ v4) := by
  subst e e10; obtain ⟨h1, h2⟩ := h.box rfl; (refine ⟨((((h.below.setCell (p := ⟨y, 0, none⟩) h1 _).setCell (p := ⟨y, 1, none⟩) h1 _).setCell (p := ⟨y, 2, none⟩) h1 _).setCell (p := ⟨y, 3, none⟩) h1 _).setCell (p := ⟨y, 4, none⟩) h1 _, fun _ => ⟨h1, ?_⟩⟩); rw [blk_set (blk_set (blk_set (blk_set (blk_set h2 _) _) _) _) _]; rfl
set_option maxRecDepth 10000 in
set_option maxHeartbeats 8000000 in
theorem written_all {x : Fx} (ht : TabOk x.ps x.fs) (hpl : ∀ n, n < x.fs.length → Pl (x.fs.getD n zeroF)) (hsm : ∀ f ∈ x.fs, f.size ≤ 1000) {p : Plan} (hpo : PlanOk x.ps p) (hpn : PlanN p) {w : World} {M : Nat → Prop} {wh br : List Nat} {wk : Nat} {op : Bool} (h : FinSt x w M wh br wk op) {Q Q' : Nat → Prop} (is : List Nat) (pv v : Value) (hp : PlanR Q w p pv) (hv : IRow Q' w v is) (hbd : ∀ i ∈ is, i < x.L) (hsub : ∀ y ∈ p.needs, y ∈ is) (hil : is.length ≤ 100) :
    Calls Tryz.prog 52 #[pv, v, .pointer (some ⟨x.bf, 0, none⟩)] w (WnPost x w p is) := by
  have hw := wr_all ht hpl hsm hpo hpn; obtain ⟨ru, i, needs, kids⟩ := p; obtain ⟨an, cn, sl, cap, rfl, -⟩ := hp.parts; have hv' := hv; obtain ⟨ae, ce, rfl, hec, hecm, -⟩ := hv'; obtain ⟨adB, cB, hfin, -⟩ := h.fin; obtain ⟨aW, cW, hvW, -⟩ := h.ways; rw [hvW] at hfin; have HFi : Hid (w.heap[x.bf]? = some (.cells #[.pointer (some ⟨x.bt, 0, none⟩), .slice aW (2 * x.ps.length) cW, .slice (some ⟨x.bw, 0, none⟩) x.L x.L, .slice adB br.length cB, .int .i64 (wk : Nat), .bool op] 92 (0, 0))) := hfin; have HFs : Hid (FinSt x w M wh br wk op) := h
  have HCall : Hid (∀ (W : World) (bz : Nat) (lean : Bool), Below w.heap.size w W → w.heap.size ≤ bz → W.heap[bz]? = some (.cells #[.pointer (some ⟨x.bt, 0, none⟩), .slice aW (2 * x.ps.length) cW, .bool lean, .int .i64 0, .int .i64 0] 162 (0, 0)) → Calls Tryz.prog 103 #[.pointer (some ⟨bz, 0, none⟩), .agg #[.string ru, .int .i64 (i : Nat), .slice an needs.length cn, .slice sl kids.length cap], .slice ae is.length ce, .int .i64 1] W (WrPost x W bz lean 0 0 1 (.mk ru i needs kids) is)) := fun W bz lean hb hz hblk => by
    have hz' := lt_of_block hblk; (refine hw W bz lean 0 0 1 is _ _ ⟨h.tab.up hb, h.ways.move fun b hl hp => ⟨hb.block b hl, hp⟩, by rw [hvW]; exact hblk, h.tk, fun b hk => ?_, h.l2, h.plen⟩ (hp.move fun b hl _ => ⟨hb.block b hl, by omega⟩) (hv.move fun b hl _ => ⟨hb.block b hl, by omega⟩) hbd hsub hil (by omega) (by omega) (by omega) (fun e => (by cases e))); have h1 := (h.km b hk).2; have h2 := hb.size; (exact ⟨by omega, by omega⟩)
  obtain ⟨O3, hO3⟩ : ∃ O, O = Obj.cells #[.string ru, .int .i64 (i : Nat), .slice an needs.length cn, .slice sl kids.length cap] 85 (0, 0) := ⟨_, rfl⟩; obtain ⟨O6, hO6⟩ : ∃ O, O = Obj.cells #[.string ⟨#[]⟩, .int .i64 0, .string ⟨#[]⟩, .slice none 0 0, .slice none 0 0, .slice none 0 0, .slice none 0 0] 32 (0, 0) := ⟨_, rfl⟩; have zbf := lt_of_block hfin; (have hLI : (x.L : Int) ≤ 200000 := by have h1 := h.l2; have h2 := h.plen; omega); clear h hp hv hbd hsub hpo hpn hsm hpl ht hw hfin hvW
  go_enter Tryz.func52, Tryz.ntmps52
  go_wp2_with fail; obtain ⟨W, hW⟩ : ∃ W, W = ((w.alloc O3).alloc O6).alloc (.cells #[.bool false, .bool true] 4 (0, 0)) := ⟨_, rfl⟩; rw [← hO3, ← hO6, ← hW]; (have B0 : Hid (Below w.heap.size w W) := by rw [hW]; exact below_more (below_more (below_more (Below.refl _ w) _) _) _); (have P3 : Hid (W.heap[w.heap.size]? = some (.cells #[.string ru, .int .i64 (i : Nat), .slice an needs.length cn, .slice sl kids.length cap] 85 (0, 0))) := by rw [hW, ← hO3]; exact alloc_keep (alloc_keep (blk_new w O3) _) _); (have P6 : Hid (W.heap[w.heap.size + 1]? = some (.cells #[.string ⟨#[]⟩, .int .i64 0, .string ⟨#[]⟩, .slice none 0 0, .slice none 0 0, .slice none 0 0, .slice none 0 0] 32 (0, 0))) := by rw [hW, ← hO6]; exact alloc_keep (blk_two w O3 O6) _); (have P11 : Hid (W.heap[w.heap.size + 1 + 1]? = some (.cells #[.bool false, .bool true] 4 (0, 0))) := by rw [hW]; have := blk_new ((w.alloc O3).alloc O6) (.cells #[.bool false, .bool true] 4 (0, 0)); rw [World.size_alloc, World.size_alloc] at this; exact this); (have HZ : Hid (W.heap.size = w.heap.size + 3) := by show _ = _; rw [hW]; simp); clear hW
  go_loopg [13] 2 (fun g c wr => ∃ (k : Nat) (q0 q1 q2 q3 q4 q5 q6 : Value), k ≤ 2 ∧ g = 2 - k ∧ c = .int .i64 (k : Nat) ∧ Hid (Below w.heap.size w wr) ∧ Hid (w.heap.size + 3 ≤ wr.heap.size) ∧ Hid (wr.heap[w.heap.size]? = some (.cells #[.string ru, .int .i64 (i : Nat), .slice an needs.length cn, .slice sl kids.length cap] 85 (0, 0))) ∧ Hid (wr.heap[w.heap.size + 1]? = some (.cells #[q0, q1, q2, q3, q4, q5, q6] 32 (0, 0))) ∧ Hid (wr.heap[w.heap.size + 1 + 1]? = some (.cells #[.bool false, .bool true] 4 (0, 0))) ∧ Hid (0 < k → ¬ Roomy (x.nods is) 0 0 1))
  case atStart => exact ⟨0, _, _, _, _, _, _, _, by omega, by omega, rfl, B0, (by show _ ≤ _; have := HZ.out; omega), P3, P6, P11, fun h => absurd h (Nat.not_lt_zero _)⟩
  case round =>
    obtain ⟨k, q0, q1, q2, q3, q4, q5, q6, hk, hg, rfl, HB, HZr, H3, H6, H11, HNr⟩ := hrel; have HG : Hid (gk = 2 - k) := hg; clear hg; have hzr : w.heap.size + 3 ≤ wr.heap.size := HZr.out; obtain ⟨y0, y1, y2, y3, y4, y5, y6⟩ := blk7 H6.out; obtain ⟨f0, f1, f2, f3, f4, f5, f6⟩ := blk7f H6.out; obtain ⟨d0, d1, d2, d3, -⟩ := blk4a H3.out; obtain ⟨c0, c1, -⟩ := blk2 H11.out; obtain ⟨z0, z1, -⟩ := blk6 (below_keep HB.out HFi.out); by_cases h2 : k = 2
    · subst h2
      clear c0 c1 z0 z1 d0 d1 d2 d3; (have hN := HNr.out (by omega)); have HNo : Hid (¬ Roomy (x.nods is) 0 0 1) := hN; clear hN; go_wp2_with fail; obtain ⟨Wf, hWf⟩ : ∃ Wf, Wf = sev7 wr (w.heap.size + 1) (.string ⟨#[]⟩) (.int .i64 0) (.string ⟨#[]⟩) (.slice none 0 0) (.slice none 0 0) (.slice none 0 0) (.slice none 0 0) := ⟨_, rfl⟩
      change bodyPost _ _ _ _ _ (sev7 wr (w.heap.size + 1) (.string ⟨#[]⟩) (.int .i64 0) (.string ⟨#[]⟩) (.slice none 0 0) (.slice none 0 0) (.slice none 0 0) (.slice none 0 0))
      have hE := sev7_same (.string ⟨#[]⟩) (.int .i64 0) (.string ⟨#[]⟩) (.slice none 0 0) (.slice none 0 0) (.slice none 0 0) (.slice none 0 0) H6.out; have hKf := sev7_kept wr (w.heap.size + 1) (.string ⟨#[]⟩) (.int .i64 0) (.string ⟨#[]⟩) (.slice none 0 0) (.slice none 0 0) (.slice none 0 0) (.slice none 0 0); rw [← hWf] at hE hKf ⊢; clear hWf; obtain ⟨m0, m1, m2, m3, m4, m5, m6⟩ := blk7 hE; have hz0 := HB.out.size; (exact bodyPost_ret (v := .tuple #[.agg #[.string ⟨#[]⟩, .int .i64 0, .string ⟨#[]⟩, .slice none 0 0, .slice none 0 0, .slice none 0 0, .slice none 0 0], .bool false]) (by simp [results, Tryz.results52, go_sem, m0, m1, m2, m3, m4, m5, m6]) rfl ⟨_, _, false, rfl, zero_pf Wf _, HB.out.trans (hKf.below (by omega) fun b hb => by omega), fun h => (by cases h), fun _ => ⟨rfl, HNo.out⟩⟩)
    · obtain ⟨lean, hcl⟩ : ∃ lean, wr.cell? ⟨w.heap.size + 1 + 1, k, none⟩ = some (.bool lean) ∧ (k = 0 → lean = false) := by
        rcases (by omega : k = 0 ∨ k = 1) with rfl | rfl
        · exact ⟨false, c0, fun _ => rfl⟩
        · exact ⟨true, c1, fun h => by omega⟩
      have HLe : Hid (k = 0 → lean = false) := hcl.2; have hce := hcl.1; (have hkI : (k : Int) < 2 := by omega); clear c0 c1 hcl; have HFr : Hid (wr.heap[x.bf]? = some (.cells #[.pointer (some ⟨x.bt, 0, none⟩), .slice aW (2 * x.ps.length) cW, .slice (some ⟨x.bw, 0, none⟩) x.L x.L, .slice adB br.length cB, .int .i64 (wk : Nat), .bool op] 92 (0, 0))) := below_keep HB.out HFi.out; have zb' : x.bf < wr.heap.size := lt_of_block HFr.out; go_wp2_with fail; (refine wp_region_gh (by kernel_rfl) (by kernel_rfl) (by kernel_rfl) 37 rfl (by kernel_rfl) [fun _ v _ => v = (.pointer (some ⟨x.bf, 0, none⟩)), fun _ v _ => v = (.pointer (some ⟨x.bf, 0, none⟩)), fun _ v _ => v = (.pointer (some ⟨x.bf, 0, none⟩)), fun _ v _ => v = (.pointer (some ⟨x.bt, 0, none⟩)), fun _ v _ => v = (.pointer (some ⟨x.bf, 0, none⟩)), fun _ v _ => v = (.pointer (some ⟨x.bf, 0, none⟩)), fun _ v _ => v = (.pointer (some ⟨x.bf, 1, none⟩)), fun _ v _ => v = (.slice aW (2 * x.ps.length) cW), fun _ v _ => v = (.bool lean), fun _ v _ => v = (.agg #[.pointer (some ⟨x.bt, 0, none⟩), .slice aW (2 * x.ps.length) cW, .bool lean, .int .i64 0, .int .i64 0]), fun y v _ => v = .pointer (some ⟨y, 0, none⟩), fun _ _ _ => True] (fun _ _ => true) (fun L => StA wr #[.pointer (some ⟨x.bt, 0, none⟩), .slice aW (2 * x.ps.length) cW, .bool lean, .int .i64 0, .int .i64 0] (L 10) (L 11)) (0) ?_ ?_ ?_)
      · exact fun wx h _ => ⟨h, fun e => (by cases e)⟩
      · refine ⟨?_, ?_, ?_, ?_, ?_, ?_, ?_, ?_, ?_, ?_, ?_, ?_, trivial⟩
        · intro L y a wx hSt hLi hdl hcl hold hdep K hK
          have HSt : Hid (StA wr #[.pointer (some ⟨x.bt, 0, none⟩), .slice aW (2 * x.ps.length) cW, .bool lean, .int .i64 0, .int .i64 0] (L 10) (L 11) y wx) := hSt; clear hSt; have t2 : a.tmps[2]? = some (.pointer (some ⟨x.bf, 0, none⟩)) := hold 2 rfl; clear hold hdep hdl hcl hLi; go_simp; (exact hK.out _ _ y HSt.out rfl (fun j hj hl => ⟨hl, fun u h => h⟩))
        · intro L y a wx hSt hLi hdl hcl hold hdep K hK
          have HSt : Hid (StA wr #[.pointer (some ⟨x.bt, 0, none⟩), .slice aW (2 * x.ps.length) cW, .bool lean, .int .i64 0, .int .i64 0] (L 10) (L 11) y wx) := hSt; clear hSt; obtain ⟨v17, t17, q17⟩ := hdep 0 rfl _ 17 rfl rfl; have e17 : v17 = (.pointer (some ⟨x.bf, 0, none⟩)) := q17 rfl; subst e17; clear hold hdep hdl hcl hLi; go_simp; (exact hK.out _ _ y HSt.out rfl (fun j hj hl => ⟨hl, fun u h => h⟩))
        · intro L y a wx hSt hLi hdl hcl hold hdep K hK
          have HSt : Hid (StA wr #[.pointer (some ⟨x.bt, 0, none⟩), .slice aW (2 * x.ps.length) cW, .bool lean, .int .i64 0, .int .i64 0] (L 10) (L 11) y wx) := hSt; clear hSt; obtain ⟨v18, t18, q18⟩ := hdep 1 rfl _ 18 rfl rfl; have e18 : v18 = (.pointer (some ⟨x.bf, 0, none⟩)) := q18 rfl; subst e18; clear hold hdep hdl hcl hLi; go_simp; (exact hK.out _ _ y HSt.out rfl (fun j hj hl => ⟨hl, fun u h => h⟩))
        · intro L y a wx hSt hLi hdl hcl hold hdep K hK
          have HSt : Hid (StA wr #[.pointer (some ⟨x.bt, 0, none⟩), .slice aW (2 * x.ps.length) cW, .bool lean, .int .i64 0, .int .i64 0] (L 10) (L 11) y wx) := hSt; clear hSt; obtain ⟨v19, t19, q19⟩ := hdep 2 rfl _ 19 rfl rfl; have e19 : v19 = (.pointer (some ⟨x.bf, 0, none⟩)) := q19 rfl; subst e19; obtain ⟨z0, z1, -⟩ := blk6 (below_keep HSt.out.below HFr.out); clear hold hdep hdl hcl hLi; go_simp; (exact hK.out _ _ y HSt.out rfl (fun j hj hl => ⟨hl, fun u h => h⟩))
        · intro L y a wx hSt hLi hdl hcl hold hdep K hK
          have HSt : Hid (StA wr #[.pointer (some ⟨x.bt, 0, none⟩), .slice aW (2 * x.ps.length) cW, .bool lean, .int .i64 0, .int .i64 0] (L 10) (L 11) y wx) := hSt; clear hSt; have t2 : a.tmps[2]? = some (.pointer (some ⟨x.bf, 0, none⟩)) := hold 2 rfl; clear hold hdep hdl hcl hLi; go_simp; (exact hK.out _ _ y HSt.out rfl (fun j hj hl => ⟨hl, fun u h => h⟩))
        · intro L y a wx hSt hLi hdl hcl hold hdep K hK
          have HSt : Hid (StA wr #[.pointer (some ⟨x.bt, 0, none⟩), .slice aW (2 * x.ps.length) cW, .bool lean, .int .i64 0, .int .i64 0] (L 10) (L 11) y wx) := hSt; clear hSt; obtain ⟨v21, t21, q21⟩ := hdep 4 rfl _ 21 rfl rfl; have e21 : v21 = (.pointer (some ⟨x.bf, 0, none⟩)) := q21 rfl; subst e21; clear hold hdep hdl hcl hLi; go_simp; (exact hK.out _ _ y HSt.out rfl (fun j hj hl => ⟨hl, fun u h => h⟩))
        · intro L y a wx hSt hLi hdl hcl hold hdep K hK
          have HSt : Hid (StA wr #[.pointer (some ⟨x.bt, 0, none⟩), .slice aW (2 * x.ps.length) cW, .bool lean, .int .i64 0, .int .i64 0] (L 10) (L 11) y wx) := hSt; clear hSt; obtain ⟨v22, t22, q22⟩ := hdep 5 rfl _ 22 rfl rfl; have e22 : v22 = (.pointer (some ⟨x.bf, 0, none⟩)) := q22 rfl; subst e22; clear hold hdep hdl hcl hLi; go_simp; (exact hK.out _ _ y HSt.out rfl (fun j hj hl => ⟨hl, fun u h => h⟩))
        · intro L y a wx hSt hLi hdl hcl hold hdep K hK
          have HSt : Hid (StA wr #[.pointer (some ⟨x.bt, 0, none⟩), .slice aW (2 * x.ps.length) cW, .bool lean, .int .i64 0, .int .i64 0] (L 10) (L 11) y wx) := hSt; clear hSt; obtain ⟨v23, t23, q23⟩ := hdep 6 rfl _ 23 rfl rfl; have e23 : v23 = (.pointer (some ⟨x.bf, 1, none⟩)) := q23 rfl; subst e23; obtain ⟨z0, z1, -⟩ := blk6 (below_keep HSt.out.below HFr.out); clear hold hdep hdl hcl hLi; go_simp; (exact hK.out _ _ y HSt.out rfl (fun j hj hl => ⟨hl, fun u h => h⟩))
        · intro L y a wx hSt hLi hdl hcl hold hdep K hK
          have HSt : Hid (StA wr #[.pointer (some ⟨x.bt, 0, none⟩), .slice aW (2 * x.ps.length) cW, .bool lean, .int .i64 0, .int .i64 0] (L 10) (L 11) y wx) := hSt; clear hSt; have t9 : a.tmps[9]? = some (.bool lean) := hold 9 rfl; clear hold hdep hdl hcl hLi; go_simp; (exact hK.out _ _ y HSt.out rfl (fun j hj hl => ⟨hl, fun u h => h⟩))
        · intro L y a wx hSt hLi hdl hcl hold hdep K hK
          have HSt : Hid (StA wr #[.pointer (some ⟨x.bt, 0, none⟩), .slice aW (2 * x.ps.length) cW, .bool lean, .int .i64 0, .int .i64 0] (L 10) (L 11) y wx) := hSt; clear hSt; obtain ⟨v20, t20, q20⟩ := hdep 3 rfl _ 20 rfl rfl; have e20 : v20 = (.pointer (some ⟨x.bt, 0, none⟩)) := q20 rfl; subst e20; obtain ⟨v24, t24, q24⟩ := hdep 7 rfl _ 24 rfl rfl; have e24 : v24 = (.slice aW (2 * x.ps.length) cW) := q24 rfl; subst e24; obtain ⟨v25, t25, q25⟩ := hdep 8 rfl _ 25 rfl rfl; have e25 : v25 = (.bool lean) := q25 rfl; subst e25; clear hold hdep hdl hcl hLi; go_simp; (exact hK.out _ _ y HSt.out rfl (fun j hj hl => ⟨hl, fun u h => h⟩))
        · intro L y a wx hSt hLi hdl hcl hold hdep K hK
          have HSt : Hid (StA wr #[.pointer (some ⟨x.bt, 0, none⟩), .slice aW (2 * x.ps.length) cW, .bool lean, .int .i64 0, .int .i64 0] (L 10) (L 11) y wx) := hSt; clear hSt; (have e11 : L 11 = false := not_yet hLi fun h => hcl 11 _ rfl h 10 rfl); clear hold hdep hdl; go_simp; refine hK.out _ _ wx.heap.size (HSt.out.alloc e11) rfl ?_; intro j hj hl; (refine ⟨rfl, fun u h => ?_⟩)
          rcases j with _ | _ | _ | _ | _ | _ | _ | _ | _ | _ | _ | _ | j
          · exact h
          · exact h
          · exact h
          · exact h
          · exact h
          · exact h
          · exact h
          · exact h
          · exact h
          · exact h
          · exact Bool.noConfusion (hLi.symm.trans hj)
          · exact h
          · exact h
        · intro L y a wx hSt hLi hdl hcl hold hdep K hK
          have HSt : Hid (StA wr #[.pointer (some ⟨x.bt, 0, none⟩), .slice aW (2 * x.ps.length) cW, .bool lean, .int .i64 0, .int .i64 0] (L 10) (L 11) y wx) := hSt; clear hSt; have e10 := hdl 10 rfl; obtain ⟨v10, t10, q10⟩ := hdep 10 rfl _ 10 rfl rfl; have e10 : v10 = (.pointer (some ⟨y, 0, none⟩)) := q10 rfl; subst e10; obtain ⟨v26, t26, q26⟩ := hdep 9 rfl _ 26 rfl rfl; have e26 : v26 = (.agg #[.pointer (some ⟨x.bt, 0, none⟩), .slice aW (2 * x.ps.length) cW, .bool lean, .int .i64 0, .int .i64 0]) := q26 rfl; subst e26
          have hbx : wx.heap[y]? = some (.cells #[.pointer none, .slice none 0 0, .bool false, .int .i64 0, .int .i64 0] 162 (0, 0)) := by
            have h := (HSt.out.box e10).2; rw [hLi] at h; exact h
          obtain ⟨y0, y1, y2, y3, y4, f0, f1, f2, f3, f4⟩ := blk5 hbx; clear hold hdep hdl hcl hbx; go_simp; obtain ⟨w9, hw9⟩ : ∃ w9, w9 = ((((wx.setCell ⟨y, 0, none⟩ (.pointer (some ⟨x.bt, 0, none⟩))).setCell ⟨y, 1, none⟩ (.slice aW (2 * x.ps.length) cW)).setCell ⟨y, 2, none⟩ (.bool lean)).setCell ⟨y, 3, none⟩ (.int .i64 0)).setCell ⟨y, 4, none⟩ (.int .i64 0) := ⟨_, rfl⟩; have hS9 := HSt.out.store e10 hLi; rw [← hw9]; simp only [← hw9] at hS9; clear hw9; refine hK.out (.bool false) _ _ hS9 trivial ?_; intro j hj hl; (refine ⟨rfl, fun u h => ?_⟩)
          rcases j with _ | _ | _ | _ | _ | _ | _ | _ | _ | _ | _ | _ | j
          · exact h
          · exact h
          · exact h
          · exact h
          · exact h
          · exact h
          · exact h
          · exact h
          · exact h
          · exact h
          · exact h
          · exact h
          · exact h
      · intro L y a wx hall hSt hsz hdf hold hgot
        have e10 : L 10 = true := hall 10 (Nat.le_of_ble_eq_true rfl); have e11 : L 11 = true := hall 11 (Nat.le_of_ble_eq_true rfl); have hS : StA wr #[.pointer (some ⟨x.bt, 0, none⟩), .slice aW (2 * x.ps.length) cW, .bool lean, .int .i64 0, .int .i64 0] (L 10) (L 11) y wx := hSt; rw [e10, e11] at hS; obtain ⟨v10, t10, q10⟩ := hgot 10 _ 10 rfl rfl; have e10' : v10 = .pointer (some ⟨y, 0, none⟩) := q10 rfl; subst e10'; obtain ⟨tm, df⟩ := a; (obtain ⟨ys, zs, hys, hzs, htm, rfl⟩ := frame_two 10 1 6 10 11 17 27 rfl rfl rfl (by kernel_rfl) (Nat.le_of_ble_eq_true rfl) ⟨hsz, hdf, hold⟩); obtain ⟨x10, rfl⟩ := rowOf1 ys hys; obtain ⟨x17, x18, x19, x20, x21, x22, x23, x24, x25, x26, rfl⟩ := rowOf10 zs hzs; simp only [List.take_succ_cons, List.take_zero, List.drop_succ_cons, List.drop_zero, List.cons_append, List.nil_append] at htm; subst htm; obtain rfl : x10 = _ := someInj t10; clear hys hzs hold hgot hall hSt hsz hdf e10 e11 t10 q10; have hBx : Below wr.heap.size wr wx := hS.below; obtain ⟨hy1, hy2⟩ := hS.box rfl; have HBx : Hid (Below wr.heap.size wr wx) := hBx; have HBy : Hid (wx.heap[y]? = some (.cells #[.pointer (some ⟨x.bt, 0, none⟩), .slice aW (2 * x.ps.length) cW, .bool lean, .int .i64 0, .int .i64 0] 162 (0, 0))) := hy2; have hyl : y < wx.heap.size := lt_of_block hy2; (have HC3 : Hid (Calls Tryz.prog 103 #[.pointer (some ⟨y, 0, none⟩), .agg #[.string ru, .int .i64 (i : Nat), .slice an needs.length cn, .slice sl kids.length cap], .slice ae is.length ce, .int .i64 1] wx (WrPost x wx y lean 0 0 1 (.mk ru i needs kids) is)) := HCall.out wx y lean (below_join HB.out hBx) (by have := HB.out.size; omega) hy2); obtain ⟨d0, d1, d2, d3, -⟩ := blk4a (below_keep hBx H3.out); clear hS hBx hy2; go_wp2_with fail; refine HC3.out.mono ?_; clear HC3 d0 d1 d2 d3; rintro e w3 ⟨P, pv3, fits, st3, nd3, rfl, hP3, hw3, hk3, hf3, hf4⟩; obtain ⟨a3, ⟨k3, n3, kf3⟩, l3, r3, ks3⟩ := P; obtain ⟨sf3, cf3, al3, cl3, ar3, cr3, sl3, cap3, rfl, -⟩ := hP3.parts; have hz3 : wx.heap.size ≤ w3.heap.size := hk3.size; have hzw : wr.heap.size ≤ wx.heap.size := HBx.out.size; have HP3 : Hid (PRp (wx.heap.size ≤ ·) w3 (.mk a3 (.mk k3 n3 kf3) l3 r3 ks3) (.agg #[.string a3, .int .i64 k3, .string n3, .slice sf3 kf3.length cf3, .slice al3 l3.length cl3, .slice ar3 r3.length cr3, .slice sl3 ks3.length cap3])) := hP3; (have hBw3 : Below wr.heap.size wx w3 := hk3.below hzw fun b hb => by omega); have HB3 : Hid (Below w.heap.size w w3) := (below_join HB.out HBx.out).trans (hBw3.mono HB.out.size); (have I3 : Hid (w3.heap[w.heap.size]? = some (.cells #[.string ru, .int .i64 (i : Nat), .slice an needs.length cn, .slice sl kids.length cap] 85 (0, 0))) := (hBw3.block _ (by omega)).trans (below_keep HBx.out H3.out)); (have I6 : Hid (w3.heap[w.heap.size + 1]? = some (.cells #[q0, q1, q2, q3, q4, q5, q6] 32 (0, 0))) := (hBw3.block _ (by omega)).trans (below_keep HBx.out H6.out)); (have I11 : Hid (w3.heap[w.heap.size + 1 + 1]? = some (.cells #[.bool false, .bool true] 4 (0, 0))) := (hBw3.block _ (by omega)).trans (below_keep HBx.out H11.out)); (have HF1 : Hid (fits = true → WPf x.ps x.fs 1 (.mk ru i needs kids) is (.mk a3 (.mk k3 n3 kf3) l3 r3 ks3) ∧ (Pf.mk a3 (.mk k3 n3 kf3) l3 r3 ks3).size ≤ 20000) := fun h => ⟨(hf3 h).1, by have h1 := (hf3 h).2.1; have h2 := (hf3 h).2.2.1; omega⟩); (have HF2 : Hid (fits = false → k = 0 → ¬ Roomy (x.nods is) 0 0 1) := fun h1 h2 => hf4 h1 (HLe.out h2)); clear hP3 hw3 hk3 hf3 hf4 hBw3 y0 y1 y2 y3 y4 y5 y6 f0 f1 f2 f3 f4 f5 f6 z0 z1 hce; obtain ⟨y0, y1, y2, y3, y4, y5, y6⟩ := blk7 I6.out; obtain ⟨f0, f1, f2, f3, f4, f5, f6⟩ := blk7f I6.out; obtain ⟨W4, hW4⟩ : ∃ W4, W4 = sev7 w3 (w.heap.size + 1) (.string a3) (.int .i64 k3) (.string n3) (.slice sf3 kf3.length cf3) (.slice al3 l3.length cl3) (.slice ar3 r3.length cr3) (.slice sl3 ks3.length cap3) := ⟨_, rfl⟩; have HE4 : Hid (sev7 w3 (w.heap.size + 1) (.string a3) (.int .i64 k3) (.string n3) (.slice sf3 kf3.length cf3) (.slice al3 l3.length cl3) (.slice ar3 r3.length cr3) (.slice sl3 ks3.length cap3) = W4) := hW4.symm; have hK4 := sev7_kept w3 (w.heap.size + 1) (.string a3) (.int .i64 k3) (.string n3) (.slice sf3 kf3.length cf3) (.slice al3 l3.length cl3) (.slice ar3 r3.length cr3) (.slice sl3 ks3.length cap3)
        have h64 := sev7_same (.string a3) (.int .i64 k3) (.string n3) (.slice sf3 kf3.length cf3) (.slice al3 l3.length cl3) (.slice ar3 r3.length cr3) (.slice sl3 ks3.length cap3) I6.out; rw [← hW4] at hK4 h64; (have HK4 : Hid (Kept (fun b => b ≠ w.heap.size + 1) w3 W4) := hK4); have H64 : Hid (W4.heap[w.heap.size + 1]? = some (.cells #[.string a3, .int .i64 k3, .string n3, .slice sf3 kf3.length cf3, .slice al3 l3.length cl3, .slice ar3 r3.length cr3, .slice sl3 ks3.length cap3] 32 (0, 0))) := h64; (have HB4 : Hid (Below w.heap.size w W4) := HB3.out.trans (hK4.below HB3.out.size fun b hb => by omega)); clear hW4 hK4 h64
        cases fits
        · go_wp2_with fail
          unfold sev7 at HE4; rw [HE4.out]; go_wp2_with fail
          go_roundg (2 - (k + 1))
          case measure => have := HG.out; omega
          case rel => exact ⟨k + 1, _, _, _, _, _, _, _, by omega, rfl, by go_num, HB4, (by show _ ≤ _; have := HK4.out.size; omega), (HK4.out.block _ (by omega) (by omega)).trans I3.out, H64, (HK4.out.block _ (by omega) (by omega)).trans I11.out, fun _ => by
            rcases Nat.eq_zero_or_pos k with h0 | h0
            · exact HF2.out trivial h0
            · exact HNr.out h0⟩
        · go_wp2_with fail
          obtain ⟨Wf, hWf⟩ : ∃ Wf, Wf = sev7 W4 (w.heap.size + 1) (.string a3) (.int .i64 k3) (.string n3) (.slice sf3 kf3.length cf3) (.slice al3 l3.length cl3) (.slice ar3 r3.length cr3) (.slice sl3 ks3.length cap3) := ⟨_, rfl⟩
          change bodyPost _ _ _ _ _ (sev7 (sev7 w3 (w.heap.size + 1) (.string a3) (.int .i64 k3) (.string n3) (.slice sf3 kf3.length cf3) (.slice al3 l3.length cl3) (.slice ar3 r3.length cr3) (.slice sl3 ks3.length cap3)) (w.heap.size + 1) (.string a3) (.int .i64 k3) (.string n3) (.slice sf3 kf3.length cf3) (.slice al3 l3.length cl3) (.slice ar3 r3.length cr3) (.slice sl3 ks3.length cap3))
          have hE := sev7_same (.string a3) (.int .i64 k3) (.string n3) (.slice sf3 kf3.length cf3) (.slice al3 l3.length cl3) (.slice ar3 r3.length cr3) (.slice sl3 ks3.length cap3) H64.out; have hKf := sev7_kept W4 (w.heap.size + 1) (.string a3) (.int .i64 k3) (.string n3) (.slice sf3 kf3.length cf3) (.slice al3 l3.length cl3) (.slice ar3 r3.length cr3) (.slice sl3 ks3.length cap3); rw [HE4.out, ← hWf]; rw [← hWf] at hE hKf; clear hWf; obtain ⟨m0, m1, m2, m3, m4, m5, m6⟩ := blk7 hE; have hz4 := HK4.out.size; have hz0 := HB3.out.size; (refine bodyPost_ret (v := .tuple #[.agg #[.string a3, .int .i64 k3, .string n3, .slice sf3 kf3.length cf3, .slice al3 l3.length cl3, .slice ar3 r3.length cr3, .slice sl3 ks3.length cap3], .bool true]) (by simp [results, Tryz.results52, go_sem, m0, m1, m2, m3, m4, m5, m6]) rfl ⟨_, _, true, rfl, HP3.out.move fun b hb hp => ⟨(hKf.block b (by omega) (by omega)).trans (HK4.out.block b hb (by omega)), by omega⟩, HB4.out.trans (hKf.below (by omega) fun b hb => by omega), fun _ => HF1.out trivial, fun h => (by cases h)⟩)
end Go.Proofs.YtalnljnincnbdacGreat
