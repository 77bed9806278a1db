/- Texts of one proof, one behind the other: ME7, ME8, ME9, MEA, MS2, MS3, MS4. -/
import Derived.Test.YtmahgfgndfcmpagB11
import Derived.Test.YtmahgfgndfcmpagB12
import Derived.Test.YtmahgfgndfcmpagB01
import Derived.Test.YtmahgfgndfcmpagB08
import Derived.RegionTactic
import Derived.Test.YtmahgfgndfcmpagB10
import Derived.Test.YtmahgfgndfcmpagB09
import Derived.Test.YtmahgfgndfcmpagB04
/- Walks: what is wrong with a model or a formula first. -/
namespace Go.Proofs.Ytmahgfgndfcmpag
open Go.RowKit

/-- What is wrong with a model, or else with a formula. -/
def mfcode (m : Mdl) (f : Fm) : Int × Int := if (mdcode 40 2000 m).1 = 0 then f.code else mdcode 40 2000 m
set_option maxHeartbeats 2000000 in
theorem firstFault_any (m : Mdl) (f : Fm) (v u : Value) (w : World) (hv : MR w m v) (hu : Rep w (fun _ => True) f u) :
    Calls Try.prog 31 #[v, u] w fun e w' => e = .returned (.agg #[.int .i64 (mfcode m f).1, .int .i64 (mfcode m f).2]) ∧ Below w.heap.size w w' := by
  (have HK : Hid (∀ w, MR w m v → Calls Try.prog 39 #[v] w _) := fun w h => kCheck_any m v w h); (have HC : Hid (∀ w, Rep w (fun _ => True) f u → Calls Try.prog 48 #[u] w _) := fun w h => check_any f u w h); (have HE : Hid (((mdcode 40 2000 m).1 = 0 → mfcode m f = f.code) ∧ ((mdcode 40 2000 m).1 ≠ 0 → mfcode m f = mdcode 40 2000 m)) := ⟨fun h => if_pos h, fun h => if_neg h⟩); have HV : Hid (MR w m v) := hv; (have HU : Hid (Rep w (fun _ => True) f u) := hu); obtain ⟨ra, rc, ta, tc, rfl, -⟩ := hv; obtain ⟨k, n, ks⟩ := f; obtain ⟨sl, cp, rfl⟩ := slice_shape hu; generalize mdcode 40 2000 m = md at *; generalize (Fm.mk k n ks).code = fd at *; generalize mfcode m (.mk k n ks) = r at *; obtain ⟨c, a⟩ := md; obtain ⟨fc, fa⟩ := fd; obtain ⟨W, hW⟩ : ∃ W, W = ((w.alloc (.cells #[.int .i64 m.n, .slice ra m.rel.length rc, .slice ta m.tr.length tc] 25 (0, 0))).alloc (.cells #[.int .i64 k, .string n, .slice sl ks.length cp] 28 (0, 0))).alloc (.cells #[.int .i64 0, .int .i64 0] 34 (0, 0)) := ⟨_, rfl⟩; (have HB0 : Hid (Below w.heap.size w W) := by rw [hW]; exact below_more (below_more (below_more (Below.refl _ w) _) _) _); obtain ⟨b1, b2, b3⟩ := blk_threeM w (.cells #[.int .i64 m.n, .slice ra m.rel.length rc, .slice ta m.tr.length tc] 25 (0, 0)) (.cells #[.int .i64 k, .string n, .slice sl ks.length cp] 28 (0, 0)) (.cells #[.int .i64 0, .int .i64 0] 34 (0, 0)); rw [← hW] at b1 b2 b3; have HQ2 : Hid (W.heap[w.heap.size + 2]? = some (.cells #[.int .i64 0, .int .i64 0] 34 (0, 0))) := b3; have HQ1 : Hid (W.heap[w.heap.size + 1]? = some (.cells #[.int .i64 k, .string n, .slice sl ks.length cp] 28 (0, 0))) := b2; clear b1 b2 b3 hu
  go_enter Try.func31, Try.ntmps31
  go_wp2_with fail; rw [← hW]; refine (HK.out _ (HV.out.up HB0.out)).mono ?_; rintro _ w1 ⟨rfl, hb1⟩; have HB1 : Hid (Below w.heap.size w w1) := below_join HB0.out hb1; have HR1 : Hid (w1.heap[w.heap.size + 2]? = some (.cells #[.int .i64 0, .int .i64 0] 34 (0, 0))) := below_keep hb1 HQ2.out; have HF1 : Hid (w1.heap[w.heap.size + 1]? = some (.cells #[.int .i64 k, .string n, .slice sl ks.length cp] 28 (0, 0))) := below_keep hb1 HQ1.out; clear hb1 hW; obtain ⟨X, hX⟩ : ∃ X, w1.alloc (.cells #[.int .i64 c, .int .i64 a] 34 (0, 0)) = X := ⟨_, rfl⟩; (have HXr : Hid (X.heap[w.heap.size + 1 + 1]? = some (.cells #[.int .i64 0, .int .i64 0] 34 (0, 0))) := by rw [← hX]; exact alloc_keep HR1.out _); obtain ⟨q20, q21, q22, q23⟩ := blk2 HXr.out; (obtain ⟨q10, q11, q12, -⟩ := blk3 (show X.heap[w.heap.size + 1]? = some _ by rw [← hX]; exact alloc_keep HF1.out _)); (obtain ⟨q30, q31, -⟩ := blk2 (show X.heap[w1.heap.size]? = some _ by rw [← hX]; exact blk_new _ _)); (have HBX : Hid (Below w.heap.size w X) := by rw [← hX]; exact below_more HB1.out _); by_cases h0 : c = 0
  · subst h0
    have HR := HE.out.1 rfl; subst HR; go_wp2_with fail; refine (HC.out _ (HU.out.up HBX.out)).mono ?_; rintro _ w2 ⟨rfl, hb2⟩; have HY : Hid (w2.heap[w.heap.size + 1 + 1]? = some (.cells #[.int .i64 0, .int .i64 0] 34 (0, 0))) := below_keep hb2 HXr.out; have HB2 : Hid (Below w.heap.size w w2) := below_join HBX.out hb2; clear hb2 q20 q21 q22 q23 q10 q11 q12 q30 q31 hX; obtain ⟨q20, q21, q22, q23⟩ := blk2 HY.out; go_wp2_with fail; have f2 := set2 HY.out (.int .i64 fc) (.int .i64 fa); (have b2 := (HB2.out.setCell (p := ⟨w.heap.size + 1 + 1, 0, none⟩) (by simp; omega) (.int .i64 fc)).setCell (p := ⟨w.heap.size + 1 + 1, 1, none⟩) (by simp; omega) (.int .i64 fa)); generalize World.setCell _ _ _ = F at f2 b2 ⊢; clear q20 q21 q22 q23; obtain ⟨o1, o2, -⟩ := blk2 f2; (exact bodyPost_ret (v := .agg #[.int .i64 fc, .int .i64 fa]) (by simp [results, Try.results31, go_sem, o1, o2]) rfl ⟨rfl, b2⟩)
  · have HR := HE.out.2 h0
    subst HR; go_wp2_with fail; have f2 := set2 HXr.out (.int .i64 c) (.int .i64 a); (have b2 := (HBX.out.setCell (p := ⟨w.heap.size + 1 + 1, 0, none⟩) (by simp; omega) (.int .i64 c)).setCell (p := ⟨w.heap.size + 1 + 1, 1, none⟩) (by simp; omega) (.int .i64 a)); generalize World.setCell _ _ _ = F at f2 b2 ⊢; clear q20 q21 q22 q23; obtain ⟨o1, o2, -⟩ := blk2 f2; (exact bodyPost_ret (v := .agg #[.int .i64 c, .int .i64 a]) (by simp [results, Try.results31, go_sem, o1, o2]) rfl ⟨rfl, b2⟩)
end Go.Proofs.Ytmahgfgndfcmpag
/- Walks: modal.Eval. -/
namespace Go.Proofs.Ytmahgfgndfcmpag
open Go.RowKit Go.Maps Go.WideMaps

theorem step_mapE {H : Type} {P : Program} (w : World) {ops : Array Oper} {o : Oper} {a : Act} {K : Act → World → Prop} {Q : Exit → Act → World → Prop} {E : Prop} (hgd : o.guard = none) (m x v : Operand) (t : TypeId) (hop : o.op = Op.mapUpdate t m x v)
    (k e : TypeId) (KK : Keyed P k) (ht : P.underlying t = some (.map k e)) (R : Value → Option (DataW H × List MemPlace)) (b n : Nat) (D : DataW H)
    (hm : a.eval m = .map (some b)) (hown : w.ownsMap P k R b n D) (hn : n < maxLen) (key val : Value) (kl : Lit) (hx : a.eval x = key) (hv : a.eval v = val) (hkey : keyOf P k key = some kl)
    (d : DataW H) (ps : List MemPlace) (hval : R val = some (d, ps))
    (h : ∀ w', w'.ownsMap P k R b (n + 1) (D.put kl d) → w.grownBy w' (some b) → K (a.put o.dst undef) w') :
    if Region.wanted o (yielded ops a.tmps) = true then Oper.wp P o a w K Q else E := by
  (have hw : Region.wanted o (yielded ops a.tmps) = true := by simp [Region.wanted, hgd]); rw [if_pos hw]; obtain ⟨w', hrun, r1, r2⟩ := hown.update KK ht hn hkey hval; unfold Oper.wp; simp [execOp, hop, hm, hx, hv, hrun, Result.andThen]; exact h w' r1 r2
theorem wf_set {s : Nat} (h : s < 1099511627776) : (Lit.int .u64 (s : Int)).wf = true := by
  simp [Lit.wf, IntKind.min, IntKind.max, IntKind.signed, IntKind.bits]; omega
/-- The names of a world, by its number. -/
def pT (tr : List (List (List UInt8))) (u : Nat) (s : List UInt8) : Bool := (tr.getD u []).contains s
def ppO (tr : List (List (List UInt8))) (i u : Nat) (s : List UInt8) : Bool := decide (u < i) && pT tr u s
def ppI (tr : List (List (List UInt8))) (i k u : Nat) (s : List UInt8) : Bool := (decide (u < i) && pT tr u s) || (u == i && ((tr.getD i []).take k).contains s)
theorem ppI_zero (tr : List (List (List UInt8))) (i u : Nat) (s : List UInt8) : ppO tr i u s = ppI tr i 0 u s := by simp [ppO, ppI]
theorem ppI_full (tr : List (List (List UInt8))) (i u : Nat) (s : List UInt8) : ppI tr i (tr.getD i []).length u s = ppO tr (i + 1) u s := by
  unfold ppI ppO; rw [List.take_length]; by_cases e : u = i
  · subst e; simp [pT]
  · have : decide (u < i + 1) = decide (u < i) := by rw [decide_eq_decide]; omega
    rw [this]; simp [e]
theorem ppI_succ {tr : List (List (List UInt8))} {i k u : Nat} {s t : List UInt8} (h : (tr.getD i [])[k]? = some t) : (ppI tr i k u s || (u == i && s == t)) = ppI tr i (k + 1) u s := by
  unfold ppI; rw [List.take_add_one, h, Bool.or_assoc]
  congr 1
  by_cases e : u = i
  · subst e
    rw [Bool.eq_iff_iff]
    simp
  · have : (u == i) = false := by simpa using e
    rw [this]
    simp
theorem ppO_all {tr : List (List (List UInt8))} {u : Nat} {s : List UInt8} (h : u < tr.length) : ppO tr tr.length u s = pT tr u s := by simp [ppO, h]
/-- The names of a model that is fine. -/
theorem wfirst_zero : ∀ (ls : List (List (List UInt8))) (i : Nat), (wfirst ls i).1 = 0 → ∀ l ∈ ls, wcode l = 0
  | [], _, _, l, h => by cases h
  | l :: ls, i, h, l', hl => by
    rw [wfirst] at h
    split at h
    · rename_i h0
      rcases List.mem_cons.1 hl with rfl | h2
      · exact h0
      · exact wfirst_zero ls (i + 1) h l' h2
    · rename_i h0
      exact absurd h h0
theorem mdcode_names {W P : Int} {m : Mdl} (h : (mdcode W P m).1 = 0) : ∀ l ∈ m.tr, l.length ≤ 30 ∧ ∀ t ∈ l, isNm t = true := by
  intro l hl
  have h2 : wcode l = 0 := by
    unfold mdcode at h
    split at h
    · cases h
    split at h
    · cases h
    split at h
    · cases h
    exact wfirst_zero _ _ h l hl
  unfold wcode at h2
  split at h2
  · cases h2
  rename_i h3
  split at h2
  · cases h2
  rename_i h4
  (refine ⟨by omega, fun t ht => ?_⟩); (have := List.any_eq_false.1 (by simpa using h4 : (l.any fun t => !isNm t) = false) t ht); simpa using this
/-- Of each world whether a formula is true there. -/
def evL (m : Mdl) (f : Fm) : List Bool := (List.range m.n.toNat).map (mtv (seeR m.n.toNat (relB m.rel)) (pT m.tr) f)
/-- A list of bools stays where two numbers are written. -/
theorem BL.off {w : World} {v : Value} {l : List Bool} {b : Nat} {x0 x1 : Int} {T : TypeId} (h : BL w v l) (hz : w.heap[b]? = some (.cells #[.int .i64 x0, .int .i64 x1] T (0, 0))) (o : Nat) (y : Int) : BL (w.setCell ⟨b, o, none⟩ (.int .i64 y)) v l := by
  obtain ⟨ad, cap, rfl, h1, h2, h3⟩ := h; (refine ⟨ad, cap, rfl, h1, h2, fun hne => ?_⟩); obtain ⟨g, off, rfl, hc⟩ := h3 hne; (refine ⟨g, off, rfl, fun j x hj => ?_⟩); have c := hc j x hj
  have hne2 : g ≠ b := fun e => by
    subst e; rw [blk_cell hz] at c; generalize off + j = q at c
    match q, c with
    | 0, c => simp at c
    | 1, c => simp at c
    | q + 2, c => simp at c
  (rw [cell_of_block (Below.heap_setCell _ _ _ _ (by simpa using hne2))]); exact c
theorem nm8 {t : List UInt8} (h : isNm t = true) : t.length ≤ 8 := by
  unfold isNm at h; simp at h; exact h.1.2
theorem rowE1 (l : List Value) (h0 : l.length = 1) : ∃ x0, l = [x0] := by
  obtain ⟨x0, l1, e0, h1⟩ := cons_lenM h0; have e1 : l1 = [] := List.length_eq_zero_iff.1 h1; subst e1 e0; exact ⟨x0, rfl⟩
theorem rowE5 (l : List Value) (h0 : l.length = 5) : ∃ x0 x1 x2 x3 x4, l = [x0, x1, x2, x3, x4] := by
  obtain ⟨x0, l1, e0, h1⟩ := cons_lenM h0; obtain ⟨x1, l2, e1, h2⟩ := cons_lenM h1; obtain ⟨x2, l3, e2, h3⟩ := cons_lenM h2; obtain ⟨x3, l4, e3, h4⟩ := cons_lenM h3; obtain ⟨x4, l5, e4, h5⟩ := cons_lenM h4; have e5 : l5 = [] := List.length_eq_zero_iff.1 h5; subst e5 e4 e3 e2 e1 e0; exact ⟨x0, x1, x2, x3, x4, rfl⟩
theorem rowE8 (l : List Value) (h0 : l.length = 8) : ∃ x0 x1 x2 x3 x4 x5 x6 x7, l = [x0, x1, x2, x3, x4, x5, x6, x7] := by
  obtain ⟨x0, l1, e0, h1⟩ := cons_lenM h0; obtain ⟨x1, l2, e1, h2⟩ := cons_lenM h1; obtain ⟨x2, l3, e2, h3⟩ := cons_lenM h2; obtain ⟨x3, l4, e3, h4⟩ := cons_lenM h3; obtain ⟨x4, l5, e4, h5⟩ := cons_lenM h4; obtain ⟨x5, l6, e5, h6⟩ := cons_lenM h5; obtain ⟨x6, l7, e6, h7⟩ := cons_lenM h6; obtain ⟨x7, l8, e7, h8⟩ := cons_lenM h7; have e8 : l8 = [] := List.length_eq_zero_iff.1 h8; subst e8 e7 e6 e5 e4 e3 e2 e1 e0; exact ⟨x0, x1, x2, x3, x4, x5, x6, x7, rfl⟩
set_option maxRecDepth 10000 in
set_option maxHeartbeats 8000000 in
theorem eval_ok (N : Nat) (hN : N ≤ 40) (rel : List (Int × Int)) (hrl : rel.length ≤ 2000) (hin : InR N rel) (tr : List (List (List UInt8))) (htr : tr.length = N) (hnm : ∀ l ∈ tr, l.length ≤ 30 ∧ ∀ t ∈ l, isNm t = true) (f : Fm) (hf : Fine f) (h0 : mfcode ⟨(N : Int), rel, tr⟩ f = (0, 0)) (v u : Value) (w : World) (hv : MR w ⟨(N : Int), rel, tr⟩ v) (hu : Rep w (fun _ => True) f u) :
    Calls Try.prog 11 #[v, u] w fun e w' => ∃ x, e = .returned (.tuple #[x, .agg #[.int .i64 0, .int .i64 0]]) ∧ BL w' x ((List.range N).map (mtv (seeR N (relB rel)) (pT tr) f)) ∧ Below w.heap.size w w' := by
  obtain ⟨ec, hec⟩ : ∃ ec : Int, (0 : Int) = ec := ⟨_, rfl⟩; obtain ⟨ea, hea⟩ : ∃ ea : Int, ((0 : Int), (0 : Int)).2 = ea := ⟨_, rfl⟩
  have HFF : Hid (∀ w, MR w ⟨(N : Int), rel, tr⟩ v → Rep w (fun _ => True) f u → Calls Try.prog 31 #[v, u] w fun e w' => e = .returned (.agg #[.int .i64 ec, .int .i64 ea]) ∧ Below w.heap.size w w') := fun w h1 h2 => by
    have := firstFault_any ⟨(N : Int), rel, tr⟩ f v u w h1 h2; rw [h0] at this; rw [← hec, ← hea]; exact this
  (have hcn : (ec != 0) = false := by rw [← hec]; rfl); have HV : Hid (MR w ⟨(N : Int), rel, tr⟩ v) := hv; (have HRep : Hid (Rep w (fun _ => True) f u) := hu); have HN : Hid (N ≤ 40) := hN; have HRl : Hid (rel.length ≤ 2000) := hrl; have HIn : Hid (InR N rel) := hin; have HTr : Hid (tr.length = N) := htr; have HNm : Hid (∀ l ∈ tr, l.length ≤ 30 ∧ ∀ t ∈ l, isNm t = true) := hnm; have HFi : Hid (Fine f) := hf; obtain ⟨ra, rc, ta, tc, rfl, hpl, hsl, -⟩ := hv; simp only at hpl hsl HFF HV ⊢; have HPl : Hid (PL w (.slice ra rel.length rc) rel) := hpl; obtain ⟨ta', tc', e2, s1, s2, s3⟩ := hsl; simp only [Value.slice.injEq, true_and] at e2; obtain ⟨rfl, rfl⟩ := e2; have HS3 : Hid (tr ≠ [] → ∃ b off, ta = some ⟨b, off, none⟩ ∧ ∀ (j : Nat) (r : List (List UInt8)), tr[j]? = some r → ∃ u, w.cell? ⟨b, off + j, none⟩ = some u ∧ SL w u r) := s3; obtain ⟨k, n, ks⟩ := f; obtain ⟨sl, cp, rfl⟩ := slice_shape hu; (have htI : (tr.length : Int) ≤ 40 := by omega); (have htc : (tr.length : Int) ≤ (tc : Int) := by omega); (have hNI : (N : Int) ≤ 40 := by omega); obtain ⟨z, hz⟩ : ∃ z, z = bm N (mtv (seeR N (relB rel)) (pT tr) (.mk k n ks)) := ⟨_, rfl⟩; have HZ : Hid (z = bm N (mtv (seeR N (relB rel)) (pT tr) (.mk k n ks))) := hz; obtain ⟨BLs, hBs⟩ : ∃ BLs, BLs = (List.range N).map (mtv (seeR N (relB rel)) (pT tr) (.mk k n ks)) := ⟨_, rfl⟩; have HBs : Hid (BLs = (List.range N).map (mtv (seeR N (relB rel)) (pT tr) (.mk k n ks))) := hBs; rw [← hBs]; obtain ⟨W, hW⟩ : ∃ W, W = ((w.alloc (.cells #[.int .i64 (N : Nat), .slice ra rel.length rc, .slice ta tr.length tc] 25 (0, 0))).alloc (.cells #[.int .i64 k, .string n, .slice sl ks.length cp] 28 (0, 0))).alloc (.cells #[.int .i64 0, .int .i64 0] 34 (0, 0)) := ⟨_, rfl⟩; (have HB0 : Hid (Below w.heap.size w W) := by rw [hW]; exact below_more (below_more (below_more (Below.refl _ w) _) _) _); obtain ⟨b1, b2, b3⟩ := blk_threeM w (.cells #[.int .i64 (N : Nat), .slice ra rel.length rc, .slice ta tr.length tc] 25 (0, 0)) (.cells #[.int .i64 k, .string n, .slice sl ks.length cp] 28 (0, 0)) (.cells #[.int .i64 0, .int .i64 0] 34 (0, 0)); rw [← hW] at b1 b2 b3; have HQ0 : Hid (W.heap[w.heap.size]? = some (.cells #[.int .i64 (N : Nat), .slice ra rel.length rc, .slice ta tr.length tc] 25 (0, 0))) := b1; have HQ1 : Hid (W.heap[w.heap.size + 1]? = some (.cells #[.int .i64 k, .string n, .slice sl ks.length cp] 28 (0, 0))) := b2; have HQ2 : Hid (W.heap[w.heap.size + 1 + 1]? = some (.cells #[.int .i64 0, .int .i64 0] 34 (0, 0))) := b3; have hmm := @run_makeMap Try.prog; clear b1 b2 b3 hu s1 s2 s3 hpl hN hrl hin htr hnm hf h0 hz hBs hec hea
  go_enter Try.func11, Try.ntmps11
  go_wp2_with fail; rw [← hW]; refine (HFF.out _ (HV.out.up HB0.out) (HRep.out.up HB0.out)).mono ?_; rintro _ w1 ⟨rfl, hb1⟩; have HB1 : Hid (Below w.heap.size w w1) := below_join HB0.out hb1; have HQ01 : Hid (w1.heap[w.heap.size]? = some (.cells #[.int .i64 (N : Nat), .slice ra rel.length rc, .slice ta tr.length tc] 25 (0, 0))) := below_keep hb1 HQ0.out; have HQ11 : Hid (w1.heap[w.heap.size + 1]? = some (.cells #[.int .i64 k, .string n, .slice sl ks.length cp] 28 (0, 0))) := below_keep hb1 HQ1.out; have HQ21 : Hid (w1.heap[w.heap.size + 1 + 1]? = some (.cells #[.int .i64 0, .int .i64 0] 34 (0, 0))) := below_keep hb1 HQ2.out; clear hb1 hW; obtain ⟨X, hX⟩ : ∃ X, w1.alloc (.cells #[.int .i64 ec, .int .i64 ea] 34 (0, 0)) = X := ⟨_, rfl⟩; (have HBX : Hid (Below w.heap.size w X) := by rw [← hX]; exact below_more HB1.out _); (have HX0 : Hid (X.heap[w.heap.size]? = some (.cells #[.int .i64 (N : Nat), .slice ra rel.length rc, .slice ta tr.length tc] 25 (0, 0))) := by rw [← hX]; exact alloc_keep HQ01.out _); (have HX1 : Hid (X.heap[w.heap.size + 1]? = some (.cells #[.int .i64 k, .string n, .slice sl ks.length cp] 28 (0, 0))) := by rw [← hX]; exact alloc_keep HQ11.out _); (have HX2 : Hid (X.heap[w.heap.size + 1 + 1]? = some (.cells #[.int .i64 0, .int .i64 0] 34 (0, 0))) := by rw [← hX]; exact alloc_keep HQ21.out _); (obtain ⟨q30, q31, -⟩ := blk2 (show X.heap[w1.heap.size]? = some _ by rw [← hX]; exact blk_new _ _)); obtain ⟨M, hM⟩ : ∃ M, X.heap.size = M := ⟨_, rfl⟩; obtain ⟨X2, hX2⟩ : ∃ X2, (X.alloc (.map #[] 0)).alloc (.cells #[.map (some M)] 67 (0, 0)) = X2 := ⟨_, rfl⟩; have HMs : Hid (X.heap.size = M) := hM; (have HBX2 : Hid (Below X.heap.size X X2) := by rw [← hX2]; exact below_more (below_more (Below.refl _ _) _) _); (have HP2 : Hid (X2.heap[M + 1]? = some (.cells #[.map (some M)] 67 (0, 0))) := by rw [← hX2, ← hM]; exact blk_secE _ _ _)
  have HM2 : Hid (HM N X2 M 0 (fun _ _ => false)) := by
    rw [← hX2, ← hM]; exact (HM.nil (w := X)).kept (alloc_keep (blk_new X _) _ |>.trans (blk_new X _).symm)
  obtain ⟨q00, q01, q02, -⟩ := blk3 (show X2.heap[w.heap.size]? = some _ from below_keep HBX2.out HX0.out); go_wp2_with fail; clear q00 q01 q02 q30 q31 hX2 hX hM hmm
  go_loopg [24] N (fun gg cc wr => ∃ i en, i ≤ N ∧ gg = N - i ∧ cc = .int .i64 (i : Nat) ∧ Hid (HM N wr M en (ppO tr i)) ∧ Hid (en ≤ 30 * i) ∧ Hid (Kept (· ≠ M) X2 wr))
  case atStart => exact ⟨0, 0, by omega, by omega, rfl, HM2.out.ext fun u s _ => by simp [ppO], by show _ ≤ _; omega, Kept.refl _ _⟩
  case round =>
    obtain ⟨i, en, hi, hg, rfl, HHm, HEn, HKr⟩ := hrel; have HGk : Hid (gk = N - i) := hg; clear hg
    have hkb : ∀ b o, b < M → X.heap[b]? = some o → wr.heap[b]? = some o := fun b o hb ho => by
      (rw [HKr.out.block b (by have := lt_of_block (below_keep HBX2.out ho); omega) (by omega)]); exact below_keep HBX2.out ho
    (have HXr : Hid (wr.heap[w.heap.size]? = some (.cells #[.int .i64 (N : Nat), .slice ra rel.length rc, .slice ta tr.length tc] 25 (0, 0))) := hkb _ _ (by have := lt_of_block HX0.out; have := HMs.out; omega) HX0.out); (have HFr : Hid (wr.heap[w.heap.size + 1]? = some (.cells #[.int .i64 k, .string n, .slice sl ks.length cp] 28 (0, 0))) := hkb _ _ (by have := lt_of_block HX1.out; have := HMs.out; omega) HX1.out); (have HZr : Hid (wr.heap[w.heap.size + 1 + 1]? = some (.cells #[.int .i64 0, .int .i64 0] 34 (0, 0))) := hkb _ _ (by have := lt_of_block HX2.out; have := HMs.out; omega) HX2.out); (have HPr : Hid (wr.heap[M + 1]? = some (.cells #[.map (some M)] 67 (0, 0))) := (HKr.out.block _ (lt_of_block HP2.out) (by omega)).trans HP2.out); (have HBw : Hid (Below w.heap.size w wr) := (below_join HBX.out HBX2.out).trans (HKr.out.below (by have := HBX.out.size; have := HBX2.out.size; omega) (fun k hk => by have := HBX.out.size; have := HMs.out; omega))); clear hkb; by_cases hlt : i < N
    · obtain ⟨l, hr⟩ : ∃ r, tr[i]? = some r := ⟨_, List.getElem?_eq_getElem (by rw [HTr.out]; exact hlt)⟩
      obtain ⟨hl30, hlnm⟩ := HNm.out _ (List.mem_of_getElem? hr); (obtain ⟨tb, toff, rfl, hc⟩ := HS3.out (fun e => by have := HTr.out; rw [e] at this; simp at this; omega)); obtain ⟨lu, hlu, hsl⟩ := hc i l hr; have g0 := (HBw.out.cell (lt_of_cell hlu)).trans hlu; obtain ⟨la, lc, rfl, l1, l2, l3⟩ := hsl; have HL3 : Hid (l ≠ [] → ∃ g off, la = some ⟨g, off, none⟩ ∧ ∀ (j : Nat) (t : List UInt8), l[j]? = some t → w.cell? ⟨g, off + j, none⟩ = some (.string ⟨t.toArray⟩)) := l3; have HLn : Hid (∀ t ∈ l, isNm t = true) := hlnm; (have HGd : Hid (tr.getD i [] = l) := by show _ = _; rw [List.getD_eq_getElem?_getD, hr]; rfl); (have hltI : (i : Int) < (N : Int) := by omega); (have hltt : (i : Int) < (tr.length : Int) := by have := HTr.out; omega); (have hltc : (i : Int) < (tc : Int) := by omega); have HIl : Hid (i < N) := hlt; (have hlI : (l.length : Int) ≤ 30 := by omega); (have hlc : (l.length : Int) ≤ (lc : Int) := by omega); have HL30 : Hid (l.length ≤ 30) := hl30; (have HM0 : Hid (HM N wr M en (ppI tr i 0)) := HHm.out.ext fun u s _ => ppI_zero tr i u s); obtain ⟨U, hU⟩ : ∃ U, U = wr := ⟨_, rfl⟩; subst hU; have HKU := HKr; obtain ⟨en0, hen0⟩ : ∃ en0, en0 = en := ⟨_, rfl⟩; (have HE0 : Hid (en0 ≤ 30 * i) := by rw [hen0]; exact HEn); rw [← hen0] at HM0; clear hlt hi hc hlu hr hlnm l1 l2 l3 hl30 HXr HFr HZr HPr HBw HKr HHm HEn hen0; go_wp2_with fail; clear g0
      go_loopg [31] l.length (fun gg cc wr => ∃ j en, j ≤ l.length ∧ gg = l.length - j ∧ cc = .int .i64 (j : Nat) ∧ Hid (HM N wr M en (ppI tr i j)) ∧ Hid (en ≤ 30 * i + j) ∧ Hid (Kept (· ≠ M) X2 wr))
      case atStart => exact ⟨0, en0, by omega, by omega, rfl, HM0, by show _ ≤ _; have := HE0.out; omega, HKU⟩
      case round =>
        obtain ⟨j, en, hj, hg, rfl, HHm, HEn, HKr⟩ := hrel; have HGj : Hid (gk = l.length - j) := hg; clear hg; (have HPr : Hid (wr.heap[M + 1]? = some (.cells #[.map (some M)] 67 (0, 0))) := (HKr.out.block _ (lt_of_block HP2.out) (by omega)).trans HP2.out); (have HBw : Hid (Below w.heap.size w wr) := (below_join HBX.out HBX2.out).trans (HKr.out.below (by have := HBX.out.size; have := HBX2.out.size; omega) (fun k hk => by have := HBX.out.size; have := HMs.out; omega))); by_cases hlt : j < l.length
        · obtain ⟨t, hr⟩ : ∃ r, l[j]? = some r := ⟨_, List.getElem?_eq_getElem hlt⟩
          have htn := HLn.out _ (List.mem_of_getElem? hr); (obtain ⟨lb, loff, rfl, hc⟩ := HL3.out (fun e => by rw [e] at hlt; simp at hlt)); have g0 := (HBw.out.cell (lt_of_cell (hc j t hr))).trans (hc j t hr); have ht8 : t.length ≤ 8 := nm8 htn; (have HKey : Hid (keyOf Try.prog 9 (.string ⟨t.toArray⟩) = some (.string t)) := keyStr t (by unfold maxLen; omega)); (obtain ⟨s, hs⟩ : ∃ s, s = bm N (fun u => ppI tr i j u t) := ⟨_, rfl⟩); (obtain ⟨s1, hs1⟩ : ∃ s1, s1 = bm N (fun u => ppI tr i j u t || u == i) := ⟨_, rfl⟩); (have HLk : Hid (∀ wx, Below wr.heap.size wr wx → (Instr.lookup 67 (.map (some M)) (.string ⟨t.toArray⟩) false).run Try.prog wx = .ok (.int .u64 (s : Nat)) wx) := fun wx hb => by rw [hs]; exact (HHm.out.up hb).look t (by unfold maxLen; omega)); (have HSa : Hid (s = bm N (fun u => ppI tr i j u t)) := hs); (have HSb : Hid (s1 = bm N (fun u => ppI tr i j u t || u == i)) := hs1); (have HJt : Hid ((tr.getD i [])[j]? = some t) := by rw [HGd.out]; exact hr); (have hltI2 : (j : Int) < (l.length : Int) := by omega); (have hltc2 : (j : Int) < (lc : Int) := by omega); have HJl : Hid (j < l.length) := hlt; have HL9 := HL30; generalize (⟨t.toArray⟩ : ByteArray) = T at *; clear hc hr hlt hj htn ht8 hs hs1; go_wp2_with fail; clear g0; (refine wp_region_last (by kernel_rfl) [fun v _ => v = (.map (some M)), fun v _ => v = (.string T), fun v _ => v = (.map (some M)), fun v _ => v = (.string T), fun v _ => v = (.int .u64 (s : Nat)), fun v _ => v = (.int .i64 (i : Nat)), fun v w => ∃ b, v = .slice (some ⟨b, 0, none⟩) 1 1 ∧ w.cell? ⟨b, 0, none⟩ = some (.int .i64 (i : Nat)), fun v _ => v = (.int .u64 (s1 : Nat))] ?_ (by kernel_rfl) (by kernel_rfl) 55 rfl (by kernel_rfl) 8 _ rfl rfl (by kernel_rfl) ?_ ?_)
          · intro p hp
            simp only [List.mem_cons, List.not_mem_nil, or_false] at hp
            rcases hp with rfl | rfl | rfl | rfl | rfl | rfl | rfl | rfl
            · exact fun _ _ _ h _ => h
            · exact fun _ _ _ h _ => h
            · exact fun _ _ _ h _ => h
            · exact fun _ _ _ h _ => h
            · exact fun _ _ _ h _ => h
            · exact fun _ _ _ h _ => h
            · rintro v w1 w2 ⟨b, e, h⟩ hb
              exact ⟨b, e, (hb.cell (lt_of_cell h)).trans h⟩
            · exact fun _ _ _ h _ => h
          · refine ⟨?_, ?_, ?_, ?_, ?_, ?_, ?_, ?_, trivial⟩
            · intro a wx hB hold hdep K hK
              have t7 : a.tmps[7]? = some (.pointer (some ⟨M + 1, 0, none⟩)) := hold.2.2 7 rfl; obtain ⟨k9, -⟩ := blk1 (below_keep hB HPr.out); clear hold hdep; go_simp; exact hK.out _ _ rfl (Below.refl _ _)
            · intro a wx hB hold hdep K hK
              have t11 : a.tmps[11]? = some (.string T) := hold.2.2 11 rfl; clear hold hdep; go_simp; exact hK.out _ _ rfl (Below.refl _ _)
            · intro a wx hB hold hdep K hK
              have t7 : a.tmps[7]? = some (.pointer (some ⟨M + 1, 0, none⟩)) := hold.2.2 7 rfl; obtain ⟨k9, -⟩ := blk1 (below_keep hB HPr.out); clear hold hdep; go_simp; exact hK.out _ _ rfl (Below.refl _ _)
            · intro a wx hB hold hdep K hK
              have t11 : a.tmps[11]? = some (.string T) := hold.2.2 11 rfl; clear hold hdep; go_simp; exact hK.out _ _ rfl (Below.refl _ _)
            · intro a wx hB hold hdep K hK
              obtain ⟨v37, t37, p37⟩ := hdep 2 rfl _ 37 rfl rfl; have e37 : v37 = (.map (some M)) := p37; subst e37; obtain ⟨v38, t38, p38⟩ := hdep 3 rfl _ 38 rfl rfl; have e38 : v38 = (.string T) := p38; subst e38; have hlk := HLk.out wx hB; clear hold hdep; go_simp; exact hK.out _ _ rfl (Below.refl _ _)
            · intro a wx hB hold hdep K hK
              have t8 : a.tmps[8]? = some (.int .i64 (i : Nat)) := hold.2.2 8 rfl; clear hold hdep; go_simp; exact hK.out _ _ rfl (Below.refl _ _)
            · intro a wx hB hold hdep K hK
              obtain ⟨v40, t40, p40⟩ := hdep 5 rfl _ 40 rfl rfl; have e40 : v40 = (.int .i64 (i : Nat)) := p40; subst e40; clear hold hdep; go_simp; (exact hK.out _ _ ⟨_, rfl, by simp⟩ (below_more (Below.refl _ _) _))
            · intro a wx hB hold hdep K hK
              obtain ⟨v39, t39, p39⟩ := hdep 4 rfl _ 39 rfl rfl; have e39 : v39 = (.int .u64 (s : Nat)) := p39; subst e39; obtain ⟨v41, t41, p41⟩ := hdep 6 rfl _ 41 rfl rfl; (have P41 : Hid ((fun v w => ∃ b, v = .slice (some ⟨b, 0, none⟩) 1 1 ∧ w.cell? ⟨b, 0, none⟩ = some (.int .i64 (i : Nat))) v41 wx) := p41); clear p41; obtain ⟨b, rfl, hb⟩ := P41.out; have HW : Hid (Calls Try.prog 32 #[.int .u64 (s : Nat), .slice (some ⟨b, 0, none⟩) 1 1] wx _) := set_with1x HN.out _ HSa.out i b HIl.out wx hb; clear hb P41; clear hold hdep; go_simp; refine HW.out.mono ?_; rintro _ w9 ⟨rfl, e9⟩
              replace e9 := e9.symm
              subst e9; go_simp; (exact hK.out _ _ (congrArg (fun x : Nat => Value.int .u64 (x : Int)) HSb.out.symm) (Below.refl _ _))
          · intro a wx hB hold hgot K hK
            (obtain ⟨vA, tvA, pvA⟩ := hgot 0 _ 35 (by omega) rfl rfl); have evA : vA = (.map (some M)) := pvA; subst evA; (obtain ⟨vB, tvB, pvB⟩ := hgot 1 _ 36 (by omega) rfl rfl); have evB : vB = (.string T) := pvB; subst evB; (obtain ⟨vC, tvC, pvC⟩ := hgot 7 _ 42 (by omega) rfl rfl); have evC : vC = (.int .u64 (s1 : Nat)) := pvC; subst evC; have HBx : Hid (Below wr.heap.size wr wx) := hB; obtain ⟨D, hown, hD⟩ := HHm.out.up hB; (have HD : Hid (∀ s : List UInt8, s.length ≤ maxLen → D.atKey (.string s) (.lit (.int .u64 0)) = .lit (.int .u64 (bm N (fun u => ppI tr i j u s) : Nat))) := hD); (refine step_mapE _ rfl _ _ _ 67 rfl 9 69 strKeyed Try.underlying67 _ M en D (by simp [go_sem, tvA]) hown (by have := HEn.out; have := HJl.out; have := HIl.out; have := HN.out; unfold maxLen; omega) (.string T) (.int .u64 (s1 : Nat)) (.string t) (by simp [go_sem, tvB]) (by simp [go_sem, tvC]) HKey.out _ [] (plainElem_int Try.underlying69 (wf_set (by rw [HSb.out]; exact bm_small HN.out _))) ?_); intro w7 hown7 hgrow7
            have HM7 : Hid (HM N w7 M (en + 1) (ppI tr i (j + 1))) := by
              rw [HSb.out] at hown7; (exact (HM.snoc hown HD.out hown7).ext fun u s _ => ppI_succ HJt.out)
            (have HK7 : Hid (Kept (· ≠ M) X2 w7) := (HKr.out.trans (kept_of_below HBx.out fun _ h _ => h)).trans (kept_grown hgrow7 fun k h e => h (by cases e; rfl))); clear hown hD hown7 hgrow7 HD HBx hB; obtain ⟨tm, df⟩ := a; (obtain ⟨ys, hys, htm, rfl⟩ := frame_mid2 35 8 (by kernel_rfl) (Nat.le_of_ble_eq_true rfl) hold); obtain ⟨x35, x36, x37, x38, x39, x40, x41, x42, rfl⟩ := rowE8 ys hys; simp only [List.take_succ_cons, List.take_zero, List.drop_succ_cons, List.drop_zero, List.cons_append, List.nil_append] at htm; subst htm; obtain rfl : x35 = _ := someInjM tvA; obtain rfl : x36 = _ := someInjM tvB; obtain rfl : x42 = _ := someInjM tvC; clear hys hold hgot tvA pvA tvB pvB tvC pvC; refine hK.out _ _ ?_; clear hK; go_wp2_with fail
            go_roundg (l.length - (j + 1))
            case measure => have := HGj.out; have := HJl.out; omega
            case rel => exact ⟨j + 1, en + 1, HJl.out, rfl, by go_num, HM7, by show _ ≤ _; have := HEn.out; omega, HK7⟩
        · have hjj : j = l.length := by omega
          subst hjj; (have hge : ¬ (l.length : Int) < (l.length : Int) := by omega)
          have HM1 : Hid (HM N wr M en (ppO tr (i + 1))) := HHm.out.ext fun u s _ => by
            have := ppI_full tr i u s; rw [HGd.out] at this; exact this
          clear hlt hj HHm; go_wp2_with fail
          go_roundg (N - (i + 1))
          case measure => have := HGk.out; have := HIl.out; omega
          case rel => exact ⟨i + 1, en, HIl.out, rfl, by go_num, HM1, by show _ ≤ _; have := HEn.out; have := HL30.out; omega, HKr⟩
    · have hii : N = i := by omega
      subst hii; (have hge : ¬ (N : Int) < (N : Int) := by omega)
      have HHf : Hid (HM N wr M en (pT tr)) := HHm.out.ext fun u s hu => by
        (have := ppO_all (tr := tr) (u := u) (s := s) (by rw [HTr.out]; exact hu)); rw [HTr.out] at this; exact this
      clear hlt hi HHm; (have hgt : ¬ (N : Int) < (tr.length : Int) := by have := HTr.out; omega); go_wp2_with fail; (refine wp_region_last (by kernel_rfl) [fun v _ => v = (.agg #[.int .i64 (N : Nat), .slice ra rel.length rc, .slice ta tr.length tc]), fun v w => ∃ g, v = .slice (some ⟨g, 0, none⟩) N N ∧ FR w g N (relB rel), fun v _ => v = (.agg #[.int .i64 k, .string n, .slice sl ks.length cp]), fun v _ => v = (.func (.func 35) #[] #[.pointer (some ⟨M + 1, 0, none⟩)]), fun v _ => v = (.int .u64 (z : Nat))] ?_ (by kernel_rfl) (by kernel_rfl) 55 rfl (by kernel_rfl) 5 _ rfl rfl (by kernel_rfl) ?_ ?_)
      · intro p hp
        simp only [List.mem_cons, List.not_mem_nil, or_false] at hp
        rcases hp with rfl | rfl | rfl | rfl | rfl
        · exact fun _ _ _ h _ => h
        · rintro v w1 w2 ⟨g, e, h⟩ hb
          exact ⟨g, e, h.up hb⟩
        · exact fun _ _ _ h _ => h
        · exact fun _ _ _ h _ => h
        · exact fun _ _ _ h _ => h
      · refine ⟨?_, ?_, ?_, ?_, ?_, trivial⟩
        · intro a wx hB hold hdep K hK
          have t2 : a.tmps[2]? = some (.pointer (some ⟨w.heap.size, 0, none⟩)) := hold.2.2 2 rfl; obtain ⟨k0, k1, k2, -⟩ := blk3 (below_keep hB HXr.out); clear hold hdep; go_simp; exact hK.out _ _ rfl (Below.refl _ _)
        · intro a wx hB hold hdep K hK
          obtain ⟨v45, t45, p45⟩ := hdep 0 rfl _ 45 rfl rfl; have e45 : v45 = (.agg #[.int .i64 (N : Nat), .slice ra rel.length rc, .slice ta tr.length tc]) := p45; subst e45; have HW : Hid (Calls Try.prog 33 #[(.agg #[.int .i64 (N : Nat), .slice ra rel.length rc, .slice ta tr.length tc])] wx _) := frameOf_any N HN.out rel HRl.out HIn.out ra ta rc tr.length tc wx ((HPl.out.up HBw.out).up hB); clear hold hdep; go_simp; refine HW.out.mono ?_; rintro _ w9 ⟨g, rfl, -, hfr, hb9⟩; have H9 : Hid (FR w9 g N (relB rel)) := hfr; clear hfr; go_simp; exact hK.out _ _ ⟨g, rfl, H9.out⟩ hb9
        · intro a wx hB hold hdep K hK
          have t3 : a.tmps[3]? = some (.pointer (some ⟨w.heap.size + 1, 0, none⟩)) := hold.2.2 3 rfl; obtain ⟨k0, k1, k2, -⟩ := blk3 (below_keep hB HFr.out); clear hold hdep; go_simp; exact hK.out _ _ rfl (Below.refl _ _)
        · intro a wx hB hold hdep K hK
          have t7 : a.tmps[7]? = some (.pointer (some ⟨M + 1, 0, none⟩)) := hold.2.2 7 rfl; (have hmf : ∀ (fn : Fn) (first cap : Array Value) (w : World), (Instr.makeFunc fn first cap).run Try.prog w = .ok (.func fn first cap) w := fun _ _ _ _ => rfl); clear hold hdep; go_simp; exact hK.out _ _ rfl (Below.refl _ _)
        · intro a wx hB hold hdep K hK
          obtain ⟨v46, t46, p46⟩ := hdep 1 rfl _ 46 rfl rfl; (have P46 : Hid ((fun v w => ∃ g, v = .slice (some ⟨g, 0, none⟩) N N ∧ FR w g N (relB rel)) v46 wx) := p46); clear p46; obtain ⟨v47, t47, p47⟩ := hdep 2 rfl _ 47 rfl rfl; have e47 : v47 = (.agg #[.int .i64 k, .string n, .slice sl ks.length cp]) := p47; subst e47; obtain ⟨v48, t48, p48⟩ := hdep 3 rfl _ 48 rfl rfl; have e48 : v48 = (.func (.func 35) #[] #[.pointer (some ⟨M + 1, 0, none⟩)]) := p48; subst e48; obtain ⟨g, rfl, hfr⟩ := P46.out
          have HW : Hid (Calls Try.prog 34 #[.slice (some ⟨g, 0, none⟩) N N, (.agg #[.int .i64 k, .string n, .slice sl ks.length cp]), (.func (.func 35) #[] #[.pointer (some ⟨M + 1, 0, none⟩)])] wx fun e w' => e = .returned (.int .u64 (z : Nat)) ∧ Below wx.heap.size wx w') := by
            rw [HZ.out]; exact where_any HN.out (havE (M + 1) (pT tr)) g (relB rel) (.mk k n ks) _ wx HFi.out ((HRep.out.up HBw.out).up hB) hfr ⟨M, en, below_keep hB HPr.out, HHf.out.up hB⟩
          clear hfr P46; clear hold hdep; go_simp; refine HW.out.mono ?_; rintro _ w9 ⟨rfl, hb9⟩; go_simp; exact hK.out _ _ rfl hb9
      · intro a wx hB hold hgot K hK
        (obtain ⟨vA, tvA, pvA⟩ := hgot 4 _ 49 (by omega) rfl rfl); have evA : vA = (.int .u64 (z : Nat)) := pvA; subst evA; have HBx : Hid (Below wr.heap.size wr wx) := hB; have HZx : Hid (wx.heap[w.heap.size + 1 + 1]? = some (.cells #[.int .i64 0, .int .i64 0] 34 (0, 0))) := below_keep hB HZr.out; have HXx : Hid (wx.heap[w.heap.size]? = some (.cells #[.int .i64 (N : Nat), .slice ra rel.length rc, .slice ta tr.length tc] 25 (0, 0))) := below_keep hB HXr.out; obtain ⟨tm, df⟩ := a; (obtain ⟨ys, zs, hys, hzs, htm, rfl⟩ := frame_two 12 1 32 5 13 45 50 rfl rfl rfl (by kernel_rfl) (Nat.le_of_ble_eq_true rfl) hold); obtain ⟨x12, rfl⟩ := rowE1 ys hys; obtain ⟨x45, x46, x47, x48, x49, rfl⟩ := rowE5 zs hzs; simp only [List.take_succ_cons, List.take_zero, List.drop_succ_cons, List.drop_zero, List.cons_append, List.nil_append] at htm; subst htm; obtain rfl : x49 = _ := someInjM tvA; clear hys hzs hold hgot tvA pvA hB; go_simp; refine hK.out _ _ ?_; clear hK; obtain ⟨k0, k1, k2, -⟩ := blk3 HXx.out
        have HBo : Hid (Calls Try.prog 36 #[.int .u64 (z : Nat), .int .i64 (N : Nat)] wx fun e w' => ∃ x, e = .returned x ∧ BL w' x BLs ∧ Below wx.heap.size wx w') := by
          rw [HZ.out, HBs.out]; exact set_bools HN.out _ wx
        go_wp2_with fail; refine HBo.out.mono ?_; rintro _ w8 ⟨x, rfl, hbl, hb8⟩; have HBl : Hid (BL w8 x BLs) := hbl; have HZ8 : Hid (w8.heap[w.heap.size + 1 + 1]? = some (.cells #[.int .i64 0, .int .i64 0] 34 (0, 0))) := below_keep hb8 HZx.out; have HB8 : Hid (Below w.heap.size w w8) := below_join (below_join HBw.out HBx.out) hb8; (have HZ0 : Hid (∀ b, b < wx.heap.size → w8.heap[b]? = wx.heap[b]?) := fun b hb => hb8.block b hb); clear hbl hb8 k0 k1 k2; obtain ⟨k1, k2, k3, k4⟩ := blk2 HZ8.out; go_wp2_with fail; have f2 := set2 HZ8.out (.int .i64 0) (.int .i64 0); (have b2 := (HB8.out.setCell (p := ⟨w.heap.size + 1 + 1, 0, none⟩) (by simp; omega) (.int .i64 0)).setCell (p := ⟨w.heap.size + 1 + 1, 1, none⟩) (by simp; omega) (.int .i64 0)); have b3 : BL ((w8.setCell ⟨w.heap.size + 1 + 1, 0, none⟩ (.int .i64 0)).setCell ⟨w.heap.size + 1 + 1, 1, none⟩ (.int .i64 0)) x BLs := BL.off (BL.off HBl.out HZ8.out _ _) (set_cellE HZ8.out _) _ _; generalize World.setCell _ _ _ = F at f2 b2 b3 ⊢; clear k1 k2 k3 k4; obtain ⟨o1, o2, -⟩ := blk2 f2; (exact bodyPost_ret (v := .tuple #[x, .agg #[.int .i64 0, .int .i64 0]]) (by simp [results, Try.results11, go_sem, o1, o2]) rfl ⟨x, rfl, b3, b2⟩)
end Go.Proofs.Ytmahgfgndfcmpag
/- Walks: modal.Eval, whole. -/
namespace Go.Proofs.Ytmahgfgndfcmpag
open Go.RowKit

set_option maxHeartbeats 4000000 in
theorem eval_bad (m : Mdl) (f : Fm) (h0 : (mfcode m f).1 ≠ 0) (v u : Value) (w : World) (hv : MR w m v) (hu : Rep w (fun _ => True) f u) :
    Calls Try.prog 11 #[v, u] w fun e w' => e = .returned (.tuple #[.slice none 0 0, .agg #[.int .i64 (mfcode m f).1, .int .i64 (mfcode m f).2]]) ∧ Below w.heap.size w w' := by
  (have HFF : Hid (∀ w, MR w m v → Rep w (fun _ => True) f u → Calls Try.prog 31 #[v, u] w fun e w' => e = .returned (.agg #[.int .i64 (mfcode m f).1, .int .i64 (mfcode m f).2]) ∧ Below w.heap.size w w') := fun w h1 h2 => firstFault_any m f v u w h1 h2); have HV : Hid (MR w m v) := hv; (have HRep : Hid (Rep w (fun _ => True) f u) := hu); obtain ⟨ra, rc, ta, tc, rfl, -⟩ := hv; obtain ⟨k, n, ks⟩ := f; obtain ⟨sl, cp, rfl⟩ := slice_shape hu; generalize mfcode m (.mk k n ks) = md at *; obtain ⟨c, a⟩ := md; (have hcn : (c != 0) = true := by simpa using h0); obtain ⟨W, hW⟩ : ∃ W, W = ((w.alloc (.cells #[.int .i64 m.n, .slice ra m.rel.length rc, .slice ta m.tr.length tc] 25 (0, 0))).alloc (.cells #[.int .i64 k, .string n, .slice sl ks.length cp] 28 (0, 0))).alloc (.cells #[.int .i64 0, .int .i64 0] 34 (0, 0)) := ⟨_, rfl⟩; (have HB0 : Hid (Below w.heap.size w W) := by rw [hW]; exact below_more (below_more (below_more (Below.refl _ w) _) _) _); obtain ⟨-, -, b3⟩ := blk_threeM w (.cells #[.int .i64 m.n, .slice ra m.rel.length rc, .slice ta m.tr.length tc] 25 (0, 0)) (.cells #[.int .i64 k, .string n, .slice sl ks.length cp] 28 (0, 0)) (.cells #[.int .i64 0, .int .i64 0] 34 (0, 0)); rw [← hW] at b3; have HQ2 : Hid (W.heap[w.heap.size + 1 + 1]? = some (.cells #[.int .i64 0, .int .i64 0] 34 (0, 0))) := b3; clear b3 hu h0
  go_enter Try.func11, Try.ntmps11
  go_wp2_with fail; rw [← hW]; refine (HFF.out _ (HV.out.up HB0.out) (HRep.out.up HB0.out)).mono ?_; rintro _ w1 ⟨rfl, hb1⟩; have HB1 : Hid (Below w.heap.size w w1) := below_join HB0.out hb1; have HR1 : Hid (w1.heap[w.heap.size + 1 + 1]? = some (.cells #[.int .i64 0, .int .i64 0] 34 (0, 0))) := below_keep hb1 HQ2.out; clear hb1 hW; obtain ⟨X, hX⟩ : ∃ X, w1.alloc (.cells #[.int .i64 c, .int .i64 a] 34 (0, 0)) = X := ⟨_, rfl⟩; (have HXr : Hid (X.heap[w.heap.size + 1 + 1]? = some (.cells #[.int .i64 0, .int .i64 0] 34 (0, 0))) := by rw [← hX]; exact alloc_keep HR1.out _); obtain ⟨q20, q21, q22, q23⟩ := blk2 HXr.out; (obtain ⟨q30, q31, -⟩ := blk2 (show X.heap[w1.heap.size]? = some _ by rw [← hX]; exact blk_new _ _)); (have HBX : Hid (Below w.heap.size w X) := by rw [← hX]; exact below_more HB1.out _); go_wp2_with fail
  go_region
  all_goals
    go_wp2_with fail; have f2 := set2 HXr.out (.int .i64 c) (.int .i64 a); (have b2 := (HBX.out.setCell (p := ⟨w.heap.size + 1 + 1, 0, none⟩) (by simp; omega) (.int .i64 c)).setCell (p := ⟨w.heap.size + 1 + 1, 1, none⟩) (by simp; omega) (.int .i64 a)); generalize World.setCell _ _ _ = F at f2 b2 ⊢; clear q20 q21 q22 q23; obtain ⟨o1, o2, -⟩ := blk2 f2; (exact bodyPost_ret (v := .tuple #[.slice none 0 0, .agg #[.int .i64 c, .int .i64 a]]) (by simp [results, Try.results11, go_sem, o1, o2]) rfl ⟨rfl, b2.drew⟩)
/-- A model and a formula in which nothing is wrong. -/
theorem mf_ok {m : Mdl} {f : Fm} (h : (mfcode m f).1 = 0) : mfcode m f = (0, 0) ∧ (mdcode 40 2000 m).1 = 0 ∧ f.code = (0, 0) ∧ Fine f := by
  unfold mfcode at h ⊢
  split at h
  · rename_i h1
    have h2 := code_zero h; obtain ⟨s, hs⟩ := code_chk h2; rw [if_pos h1]; exact ⟨h2, h1, h2, fine_of_chk f 0 s hs⟩
  · rename_i h1
    exact absurd h h1
theorem eval_any (m : Mdl) (f : Fm) (v u : Value) (w : World) (hv : MR w m v) (hu : Rep w (fun _ => True) f u) :
    Calls Try.prog 11 #[v, u] w fun e w' => ∃ x, e = .returned (.tuple #[x, .agg #[.int .i64 (mfcode m f).1, .int .i64 (mfcode m f).2]]) ∧ BL w' x (if (mfcode m f).1 = 0 then evL m f else []) ∧ Below w.heap.size w w' := by
  by_cases h0 : (mfcode m f).1 = 0
  · rw [if_pos h0]
    obtain ⟨h1, h2, -, h4⟩ := mf_ok h0; obtain ⟨N, hn, -, hN, hr, ht, hin⟩ := mdcode_in h2; have hnm := mdcode_names h2; obtain ⟨n, rel, tr⟩ := m; simp only at hn hr ht hin hnm; subst hn; rw [h1]; (refine (eval_ok N (by omega) rel (by omega) hin tr ht hnm f h4 h1 v u w hv hu).mono fun e w' h => ?_); obtain ⟨x, e1, e2, e3⟩ := h; (exact ⟨x, e1, by simpa [evL] using e2, e3⟩)
  · rw [if_neg h0]
    (refine (eval_bad m f h0 v u w hv hu).mono fun e w' h => ?_); exact ⟨_, h.1, BL.nil, h.2⟩
end Go.Proofs.Ytmahgfgndfcmpag
/- Calls of Eval in the laws: facts; an example of the document. -/
namespace Go.Proofs.Ytmahgfgndfcmpag
open Go.RowKit

def kR (F : Fm) : Value → World → Prop := fun v w => Rep w (fun _ => True) F v
theorem kR_stays (F : Fm) : Stays (kR F) := fun _ _ _ h hb => Rep.up h hb
def kEv (c d : Int) (L : List Bool) : Value → World → Prop := fun v w => ∃ x, v = .tuple #[x, .agg #[.int .i64 c, .int .i64 d]] ∧ BL w x L
theorem kEv_stays (c d : Int) (L : List Bool) : Stays (kEv c d L) := fun _ _ _ ⟨x, e, h⟩ hb => ⟨x, e, h.up hb⟩
def kB (L : List Bool) : Value → World → Prop := fun v w => BL w v L
theorem kB_stays (L : List Bool) : Stays (kB L) := fun _ _ _ h hb => BL.up h hb
def kNf (A : Nat) : Value → World → Prop := fun v w => ∃ b, v = .pointer (some ⟨b, 0, none⟩) ∧ A ≤ b ∧ w.heap[b]? = some (.cells #[.int .i64 0, .int .i64 0] 34 (0, 0))
theorem kNf_stays (A : Nat) : Stays (kNf A) := fun _ _ _ ⟨b, e, h1, h2⟩ hb => ⟨b, e, h1, below_keep hb h2⟩
theorem BL.off2 {w : World} {v : Value} {l : List Bool} {b : Nat} {x0 x1 : Int} {T : TypeId} (h : BL w v l) (hz : w.heap[b]? = some (.cells #[.int .i64 x0, .int .i64 x1] T (0, 0))) (c d : Int) : BL ((w.setCell ⟨b, 0, none⟩ (.int .i64 c)).setCell ⟨b, 1, none⟩ (.int .i64 d)) v l := by
  have h2 : (w.setCell ⟨b, 0, none⟩ (.int .i64 c)).heap[b]? = some (.cells #[.int .i64 c, .int .i64 x1] T (0, 0)) := set_cellE hz _; exact BL.off (BL.off h hz _ _) h2 _ _
/-- The example: a world that sees nothing. -/
def mOne : Mdl := ⟨1, [], [[]]⟩
def fOne : Fm := .mk 8 ⟨#[]⟩ [.mk 3 ⟨#[]⟩ []]
theorem one_code : mfcode mOne fOne = (0, 0) := by decide +kernel
theorem one_ev : evL mOne fOne = [true] := by decide +kernel
theorem one_eval (v u : Value) (w : World) (hv : MR w mOne v) (hu : Rep w (fun _ => True) fOne u) :
    Calls Try.prog 11 #[v, u] w fun e w' => ∃ x, e = .returned (.tuple #[x, .agg #[.int .i64 0, .int .i64 0]]) ∧ BL w' x [true] ∧ Below w.heap.size w w' := by
  have := eval_any mOne fOne v u w hv hu; rw [one_code, one_ev] at this; exact this
theorem rowE2 (l : List Value) (h0 : l.length = 2) : ∃ x0 x1, l = [x0, x1] := by
  obtain ⟨x0, l1, e0, h1⟩ := cons_lenM h0; obtain ⟨x1, l2, e1, h2⟩ := cons_lenM h1; have e2 : l2 = [] := List.length_eq_zero_iff.1 h2; subst e2 e1 e0; exact ⟨x0, x1, rfl⟩
theorem rowE7 (l : List Value) (h0 : l.length = 7) : ∃ x0 x1 x2 x3 x4 x5 x6, l = [x0, x1, x2, x3, x4, x5, x6] := by
  obtain ⟨x0, l1, e0, h1⟩ := cons_lenM h0; obtain ⟨x1, l2, e1, h2⟩ := cons_lenM h1; obtain ⟨x2, l3, e2, h3⟩ := cons_lenM h2; obtain ⟨x3, l4, e3, h4⟩ := cons_lenM h3; obtain ⟨x4, l5, e4, h5⟩ := cons_lenM h4; obtain ⟨x5, l6, e5, h6⟩ := cons_lenM h5; obtain ⟨x6, l7, e6, h7⟩ := cons_lenM h6; have e7 : l7 = [] := List.length_eq_zero_iff.1 h7; subst e7 e6 e5 e4 e3 e2 e1 e0; exact ⟨x0, x1, x2, x3, x4, x5, x6, rfl⟩
set_option maxRecDepth 10000 in
set_option maxHeartbeats 4000000 in
theorem modalBegun_any (w : World) : Calls Try.prog 8 #[] w fun e w' => e = .returned (.bool true) ∧ Below w.heap.size w w' := by
  obtain ⟨W, hW⟩ : ∃ W, W = (w.alloc (.cells #[.slice none 0 0] 48 (0, 0))).alloc (.cells #[.int .i64 1, .slice none 0 0, .slice (some ⟨w.heap.size, 0, none⟩) 1 1] 25 (0, 0)) := ⟨_, rfl⟩; (have HBW : Hid (Below w.heap.size w W) := by rw [hW]; exact below_more (below_more (Below.refl _ w) _) _); (have HM : Hid (W.heap[w.heap.size + 1]? = some (.cells #[.int .i64 1, .slice none 0 0, .slice (some ⟨w.heap.size, 0, none⟩) 1 1] 25 (0, 0))) := by rw [hW]; exact blk_secE _ _ _)
  have HMo : Hid (MR W mOne (.agg #[.int .i64 1, .slice none 0 0, .slice (some ⟨w.heap.size, 0, none⟩) 1 1])) := by
    (refine ⟨none, 0, some ⟨w.heap.size, 0, none⟩, 1, rfl, ⟨none, 0, rfl, Nat.le_refl _, by decide, fun h => absurd rfl h⟩, ⟨some ⟨w.heap.size, 0, none⟩, 1, rfl, Nat.le_refl _, by decide, fun _ => ⟨w.heap.size, 0, rfl, fun j r hj => ?_⟩⟩, fun l hl t ht => ?_⟩)
    · match j, hj with
      | 0, hj =>
        (have e : [] = r := by simpa [mOne] using hj); subst e; (refine ⟨.slice none 0 0, ?_, none, 0, rfl, Nat.le_refl _, by decide, fun h => absurd rfl h⟩); rw [hW]
        exact blk_cell (alloc_keep (blk_new w _) _) 0
      | j + 1, hj => simp [mOne] at hj
    · have e : l = [] := by simpa [mOne] using hl
      subst e
      cases ht
  go_enter Try.func8, Try.ntmps8
  go_wp2_with fail; rw [← hW]; clear hW; (refine wp_region_last (by kernel_rfl) [fun v _ => v = (.agg #[.int .i64 1, .slice none 0 0, .slice (some ⟨w.heap.size, 0, none⟩) 1 1]), fun v _ => v = (.agg #[.int .i64 3, .string ⟨#[]⟩, .slice none 0 0]), kR (fOne), kEv 0 0 ([true]), kEv 0 0 ([true]), kB ([true]), fun v _ => v = (.agg #[.int .i64 0, .int .i64 0]), kNf (W.heap.size), kB ([true])] ?_ (by kernel_rfl) (by kernel_rfl) 26 rfl (by kernel_rfl) 9 _ rfl rfl (by kernel_rfl) ?_ ?_)
  · intro p hp
    simp only [List.mem_cons, List.not_mem_nil, or_false] at hp
    rcases hp with rfl | rfl | rfl | rfl | rfl | rfl | rfl | rfl | rfl
    · exact fun _ _ _ h _ => h
    · exact fun _ _ _ h _ => h
    · exact kR_stays _
    · exact kEv_stays _ _ _
    · exact kEv_stays _ _ _
    · exact kB_stays _
    · exact fun _ _ _ h _ => h
    · exact kNf_stays _
    · exact kB_stays _
  · refine ⟨?_, ?_, ?_, ?_, ?_, ?_, ?_, ?_, ?_, trivial⟩
    · intro a wx hB hold hdep K hK
      have t1 : a.tmps[1]? = some (.pointer (some ⟨w.heap.size + 1, 0, none⟩)) := hold.2.2 1 rfl; obtain ⟨k0, k1, k2, -⟩ := blk3 (below_keep hB HM.out); clear hold hdep; go_simp; exact hK.out _ _ rfl (Below.refl _ _)
    · intro a wx hB hold hdep K hK
      clear hold hdep; go_simp; exact hK.out _ _ rfl (Below.refl _ _)
    · intro a wx hB hold hdep K hK
      obtain ⟨v8, t8, p8⟩ := hdep 1 rfl _ 8 rfl rfl; have e8 : v8 = (.agg #[.int .i64 3, .string ⟨#[]⟩, .slice none 0 0]) := p8; subst e8; (have HW : Hid (Calls Try.prog 24 #[.int .i64 8, .agg #[.int .i64 3, .string ⟨#[]⟩, .slice none 0 0]] wx _) := ofP_any (fun _ => True) 8 (.mk 3 ⟨#[]⟩ []) _ wx (fun _ _ => trivial) (Rep.leaf (by decide))); clear hold hdep; go_simp; refine HW.out.mono ?_; rintro _ w9 ⟨x9, rfl, hr9, hb9⟩; (have H9 : Hid (Rep w9 (fun _ => True) (fOne) x9) := hr9); clear hr9; go_simp; exact hK.out _ _ H9.out hb9
    · intro a wx hB hold hdep K hK
      obtain ⟨v7, t7, p7⟩ := hdep 0 rfl _ 7 rfl rfl; have e7 : v7 = (.agg #[.int .i64 1, .slice none 0 0, .slice (some ⟨w.heap.size, 0, none⟩) 1 1]) := p7; subst e7; obtain ⟨v9, t9, p9⟩ := hdep 2 rfl _ 9 rfl rfl; have P9 : Hid ((kR (fOne)) v9 wx) := p9; clear p9; have HW : Hid (Calls Try.prog 11 #[(.agg #[.int .i64 1, .slice none 0 0, .slice (some ⟨w.heap.size, 0, none⟩) 1 1]), v9] wx _) := one_eval _ v9 wx (HMo.out.up hB) P9.out; clear hold hdep; go_simp; refine HW.out.mono ?_; rintro _ w9 ⟨x9, rfl, hr9, hb9⟩; have H9 : Hid (BL w9 x9 ([true])) := hr9; clear hr9; go_simp; exact hK.out _ _ ⟨x9, rfl, H9.out⟩ hb9
    · intro a wx hB hold hdep K hK
      obtain ⟨v10, t10, p10⟩ := hdep 3 rfl _ 10 rfl rfl; have P10 : Hid ((kEv 0 0 ([true])) v10 wx) := p10; clear p10; clear hold hdep; go_simp; exact hK.out _ _ P10.out (Below.refl _ _)
    · intro a wx hB hold hdep K hK
      obtain ⟨v6, t6, p6⟩ := hdep 4 rfl _ 6 rfl rfl; have P6 : Hid ((kEv 0 0 ([true])) v6 wx) := p6; clear p6; obtain ⟨x9, rfl, h9⟩ := P6.out; have H9 : Hid (BL wx x9 ([true])) := h9; clear h9 P6; clear hold hdep; go_simp; exact hK.out _ _ H9.out (Below.refl _ _)
    · intro a wx hB hold hdep K hK
      obtain ⟨v6, t6, p6⟩ := hdep 4 rfl _ 6 rfl rfl; have P6 : Hid ((kEv 0 0 ([true])) v6 wx) := p6; clear p6; obtain ⟨x9, rfl, -⟩ := P6.out; clear P6; clear hold hdep; go_simp; exact hK.out _ _ rfl (Below.refl _ _)
    · intro a wx hB hold hdep K hK
      have HA : Hid (W.heap.size ≤ wx.heap.size) := hB.size; clear hold hdep; go_simp; exact hK.out _ _ ⟨_, rfl, HA.out, blk_new _ _⟩ (below_more (Below.refl _ _) _)
    · intro a wx hB hold hdep K hK
      obtain ⟨v11, t11, p11⟩ := hdep 5 rfl _ 11 rfl rfl; have P11 : Hid ((kB ([true])) v11 wx) := p11; clear p11; clear hold hdep; go_simp; exact hK.out _ _ P11.out (Below.refl _ _)
  · intro a wx hB hold hgot K hK
    (obtain ⟨x1, tX, pX⟩ := hgot 8 _ 2 (by omega) rfl rfl); (obtain ⟨vP, tP, pP⟩ := hgot 7 _ 3 (by omega) rfl rfl); obtain ⟨b1, rfl, hbA, hbz⟩ := pP; (obtain ⟨vE, tE, pE⟩ := hgot 6 _ 12 (by omega) rfl rfl); have eE : vE = (.agg #[.int .i64 0, .int .i64 0]) := pE; subst eE; have HbA : Hid (W.heap.size ≤ b1) := hbA; have HbZ : Hid (wx.heap[b1]? = some (.cells #[.int .i64 0, .int .i64 0] 34 (0, 0))) := hbz; have HXx : Hid (BL wx x1 ([true])) := pX; have HBx : Hid (Below W.heap.size W wx) := hB; obtain ⟨z0, z1, z2, z3⟩ := blk2 HbZ.out; obtain ⟨tm, df⟩ := a; (obtain ⟨ys, zs, hys, hzs, htm, rfl⟩ := frame_two 2 2 2 7 4 6 13 rfl rfl rfl (by kernel_rfl) (Nat.le_of_ble_eq_true rfl) hold); obtain ⟨y2, y3, rfl⟩ := rowE2 ys hys; obtain ⟨y6, y7, y8, y9, y10, y11, y12, rfl⟩ := rowE7 zs hzs; simp only [List.take_succ_cons, List.take_zero, List.drop_succ_cons, List.drop_zero, List.cons_append, List.nil_append] at htm; subst htm; obtain rfl : _ = y2 := (someInjM tX).symm; obtain rfl : y3 = _ := someInjM tP; obtain rfl : y12 = _ := someInjM tE; clear hys hzs; clear hold hgot tX tP tE pE pX hbA hbz hB; go_simp; refine hK.out _ _ ?_; clear hK z0 z1 z2 z3; obtain ⟨W1, hF⟩ : ∃ F, F = (wx.setCell ⟨b1, 0, none⟩ (.int .i64 0)).setCell ⟨b1, 1, none⟩ (.int .i64 0) := ⟨_, rfl⟩; (have HW1 : Hid (Below W.heap.size W W1) := by rw [hF]; exact (HBx.out.setCell (p := ⟨b1, 0, none⟩) HbA.out _).setCell (p := ⟨b1, 1, none⟩) HbA.out _); (have HE1 : Hid (W1.heap[b1]? = some (.cells #[.int .i64 0, .int .i64 0] 34 (0, 0))) := by rw [hF]; exact set2 HbZ.out _ _); (have HL1 : Hid (BL W1 x1 ([true])) := by rw [hF]; exact BL.off2 HXx.out HbZ.out _ _); rw [← hF]; clear hF HXx HBx HbZ HbA; have HL1b := HL1.out; obtain ⟨ad, cp, rfl, h1, h2, h3⟩ := HL1b; (obtain ⟨gb, off, rfl, hc⟩ := h3 (by simp)); have c0 := hc 0 true rfl; rw [Nat.add_zero] at c0; obtain ⟨z0, z1, -⟩ := blk2 HE1.out; (have hcI : (1 : Int) ≤ (cp : Int) := by simp at h1; omega); clear h1 h2 h3 hc; simp only [List.length_cons, List.length_nil, Nat.zero_add]; go_wp2_with fail; go_ret; exact ⟨rfl, below_join HBW.out HW1.out⟩
end Go.Proofs.Ytmahgfgndfcmpag
/- Walks: frame.holds: all that might be true is gone through. -/
namespace Go.Proofs.Ytmahgfgndfcmpag
open Go.RowKit Go.Maps Go.WideMaps

/-- What a row says of names: a digit for each world, name by name. -/
def plc (l : List (List UInt8)) (s : List UInt8) : Nat := if s ∈ l then l.idxOf s else 0
def pH (N : Nat) (l : List (List UInt8)) (row u : Nat) (s : List UInt8) : Bool := row.testBit (N * plc l s + u)
def holdsB (N : Nat) (S : Nat → List Nat) (l : List (List UInt8)) (f : Fm) : Bool := (List.range (2 ^ (N * l.length))).all fun row => (List.range N).all fun u => mtv S (pH N l row) f u
def OkX (N rb fb mb ab row g : Nat) (l : List (List UInt8)) (w : World) : Prop := ∃ b, w.heap[rb]? = some (.cells #[.int .u64 (row : Nat)] 69 (0, 0)) ∧ w.heap[fb]? = some (.cells #[.slice (some ⟨g, 0, none⟩) N N] 72 (0, 0)) ∧ w.heap[mb]? = some (.cells #[.map (some b)] 119 (0, 0)) ∧ w.heap[ab]? = some (.cells #[.int .u64 (bm N (fun _ => true) : Nat)] 69 (0, 0)) ∧ PM w b l
theorem PM.lookP {w : World} {b : Nat} {l : List (List UInt8)} (hnd : l.Nodup) (h : PM w b l) (t : List UInt8) (ht : t.length ≤ maxLen) : (Instr.lookup 119 (.map (some b)) (.string ⟨t.toArray⟩) false).run Try.prog w = .ok (.int .i64 (plc l t : Nat)) w := by
  obtain ⟨n, D, ho, -, h1, h2⟩ := h; obtain ⟨c, hrun, hat, -⟩ := ho.lookup_int strKeyed Try.underlying119 Try.underlying3 (zeroInt w) (keyStr t ht)
  have hc : c = ((plc l t : Nat) : Int) := by
   unfold plc; by_cases hm : t ∈ l
   · obtain ⟨i, hi, hz⟩ := h2 t hm
     rw [hz] at hat; rw [if_pos hm, idxOf_of_get hnd hi]; simp only [DataW.lit.injEq, Lit.int.injEq, true_and] at hat; exact hat.symm
   · rw [atKey_of_not_has (by rw [h1 t ht]; exact decide_eq_false hm)] at hat
     rw [if_neg hm]; simp only [DataW.lit.injEq, Lit.int.injEq, true_and] at hat; exact hat.symm
  rw [hrun, hc]
theorem plc_le (l : List (List UInt8)) (s : List UInt8) : plc l s ≤ l.length := by
  unfold plc
  split
  · exact List.idxOf_le_length
  · omega
/-- The digits of a name in a row. -/
theorem row_bits {N row k : Nat} (hN : N ≤ 40) (hr : row < 1099511627776) : bits .and .u64 ((row : Int) / 2 ^ k) (bm N (fun _ => true) : Nat) = ((bm N (fun u => row.testBit (k + u)) : Nat) : Int) := by
  have hd : ((row : Int) / 2 ^ k) = ((row / 2 ^ k : Nat) : Int) := by
    rw [Int.natCast_ediv]; simp
  rw [hd, u64_and (Nat.lt_of_le_of_lt (Nat.div_le_self _ _) hr) (bm_small hN _)]
  congr 1
  apply bm_eq; intro i; rw [Nat.testBit_and, bm_bit, Nat.testBit_div_two_pow]; rw [Nat.add_comm]
  cases decide (i < N) <;> simp
theorem u64_succ {row M : Nat} (h : row < M) (hM : (M : Int) ≤ 4096) : Value.int .u64 (IntKind.u64.wrap ((row : Int) + 1)) = .int .u64 ((row + 1 : Nat) : Int) := by
  (have e : ((2 : Int) ^ 62) = 4611686018427387904 := by decide); (rw [wraps_u64 _ (by omega) (by rw [e]; omega)]); rfl
set_option maxHeartbeats 2000000 in
theorem holds1_any {N : Nat} (hN : N ≤ 40) (l : List (List UInt8)) (hnd : l.Nodup) (hl : N * l.length ≤ 12) (rb fb mb ab row g : Nat) (hr : row < 1099511627776) (n : ByteArray) (w : World) (hok : OkX N rb fb mb ab row g l w) (hn : n.size ≤ 8) :
    Calls Try.prog 68 (#[.string n] ++ #[.pointer (some ⟨rb, 0, none⟩), .pointer (some ⟨fb, 0, none⟩), .pointer (some ⟨mb, 0, none⟩), .pointer (some ⟨ab, 0, none⟩)]) w fun e w' => e = .returned (.int .u64 (bm N (fun u => pH N l row u n.data.toList) : Nat)) ∧ Below w.heap.size w w' := by
  obtain ⟨b, h1, h2, h3, h4, hpm⟩ := hok; obtain ⟨t, rfl⟩ : ∃ t : List UInt8, n = ⟨t.toArray⟩ := ⟨n.data.toList, rfl⟩; (have hl8 : t.length ≤ 8 := by simpa [ByteArray.size] using hn); (have hlk : ∀ n, (Instr.lookup 119 (.map (some b)) (.string ⟨t.toArray⟩) false).run Try.prog (w.drewN n) = .ok (.int .i64 (plc l t : Nat)) (w.drewN n) := fun n => PM.lookP hnd (hpm.up (Below.drewE n (Below.refl _ _))) t (by unfold maxLen; omega)); obtain ⟨c1, -⟩ := blk1 h1; obtain ⟨c2, -⟩ := blk1 h2; obtain ⟨c3, -⟩ := blk1 h3; obtain ⟨c4, -⟩ := blk1 h4; have he : ((⟨t.toArray⟩ : ByteArray).data.toList) = t := rfl; rw [he]; have hpl := plc_le l t; obtain ⟨k, hk⟩ : ∃ k, k = N * plc l t := ⟨_, rfl⟩; (have hk12 : k ≤ 12 := by rw [hk]; exact Nat.le_trans (Nat.mul_le_mul (Nat.le_refl _) hpl) hl); (have hkI : (N : Int) * (plc l t : Int) = (k : Int) := by rw [hk]; simp); have hbits := row_bits (k := k) hN hr
  have HR : Hid (bits .and .u64 ((row : Int) / 2 ^ k) (bm N (fun _ => true) : Nat) = ((bm N (fun u => pH N l row u t) : Nat) : Int)) := by
    (have e : (fun u => pH N l row u t) = fun u => row.testBit (k + u) := by funext u; rw [pH, hk]); rw [e]; exact hbits
  (have hkb : (k : Int) ≤ 12 := by omega); (have hNI : (N : Int) ≤ 40 := by omega); generalize plc l t = pl at *; generalize (⟨t.toArray⟩ : ByteArray) = T at *; (generalize bm N (fun u => pH N l row u t) = res at *); (generalize bm N (fun _ => true) = al at *); clear h1 h2 h3 h4 hpm hk hbits hpl hn hl8 he hl hN; (have hwk : IntKind.i64.wrap (k : Int) = (k : Int) := by rw [IntKind.wrap_i64]; omega); show Calls Try.prog 68 #[.string T, .pointer (some ⟨rb, 0, none⟩), .pointer (some ⟨fb, 0, none⟩), .pointer (some ⟨mb, 0, none⟩), .pointer (some ⟨ab, 0, none⟩)] w _
  go_enter Try.func68, Try.ntmps68
  go_wp2_with fail
  go_quiet (fail)
  go_wp2_with fail; go_ret; (exact ⟨congrArg (fun x : Int => Ending.returned (Value.int .u64 x)) HR.out, Below.drewE _ (Below.refl _ _)⟩)
theorem holds1_in (cap : Array Value) (w : World) : (callFunc 68 cap).run Try.prog w = .ok (.enter 68 cap) w := by
  simp [go_sem]
theorem havX {N : Nat} (hN : N ≤ 40) (l : List (List UInt8)) (hnd : l.Nodup) (hl : N * l.length ≤ 12) (rb fb mb ab row g : Nat) (hr : row < 1099511627776) : Hav N 68 #[.pointer (some ⟨rb, 0, none⟩), .pointer (some ⟨fb, 0, none⟩), .pointer (some ⟨mb, 0, none⟩), .pointer (some ⟨ab, 0, none⟩)] (pH N l row) (OkX N rb fb mb ab row g l) where
  up := fun ⟨b, h1, h2, h3, h4, h5⟩ hb => ⟨b, below_keep hb h1, below_keep hb h2, below_keep hb h3, below_keep hb h4, h5.up hb⟩
  ent := fun _ w => holds1_in _ w
  call := fun n w hok hn => holds1_any hN l hnd hl rb fb mb ab row g hr n w hok hn
theorem rowE6 (l : List Value) (h0 : l.length = 6) : ∃ x0 x1 x2 x3 x4 x5, l = [x0, x1, x2, x3, x4, x5] := by
  obtain ⟨x0, l1, e0, h1⟩ := cons_lenM h0; obtain ⟨x1, l2, e1, h2⟩ := cons_lenM h1; obtain ⟨x2, l3, e2, h3⟩ := cons_lenM h2; obtain ⟨x3, l4, e3, h4⟩ := cons_lenM h3; obtain ⟨x4, l5, e4, h5⟩ := cons_lenM h4; obtain ⟨x5, l6, e5, h6⟩ := cons_lenM h5; have e6 : l6 = [] := List.length_eq_zero_iff.1 h6; subst e6 e5 e4 e3 e2 e1 e0; exact ⟨x0, x1, x2, x3, x4, x5, rfl⟩
set_option maxRecDepth 10000 in
set_option maxHeartbeats 8000000 in
theorem holds_any (N : Nat) (hN : N ≤ 40) (R : Nat → Nat → Bool) (l : List (List UInt8)) (hnd : l.Nodup) (hsm : ∀ t ∈ l, t.length ≤ 8) (hl : N * l.length ≤ 12) (hl2 : l.length ≤ 1000) (f : Fm) (hf : Fine f) (g : Nat) (v u : Value) (w : World) (hF : FR w g N R) (hv : Rep w (fun _ => True) f v) (hu : SL w u l) :
    Calls Try.prog 38 #[.slice (some ⟨g, 0, none⟩) N N, v, u] w fun e w' => e = .returned (.bool (holdsB N (seeR N R) l f)) ∧ Below w.heap.size w w' := by
  have HN : Hid (N ≤ 40) := hN; have HNd : Hid (l.Nodup) := hnd; have HSm : Hid (∀ t ∈ l, t.length ≤ 8) := hsm; have HLl : Hid (N * l.length ≤ 12) := hl; have HFi : Hid (Fine f) := hf; have HFr : Hid (FR w g N R) := hF; (have HRep : Hid (Rep w (fun _ => True) f v) := hv); obtain ⟨ad, cap, rfl, h1, h2, h3⟩ := hu; have H3 : Hid (l ≠ [] → ∃ g off, ad = some ⟨g, off, none⟩ ∧ ∀ (j : Nat) (t : List UInt8), l[j]? = some t → w.cell? ⟨g, off + j, none⟩ = some (.string ⟨t.toArray⟩)) := h3; obtain ⟨k, n, ks⟩ := f; obtain ⟨sl, cp, rfl⟩ := slice_shape hv; (have hNI : (N : Int) ≤ 40 := by omega); (have hlI : (l.length : Int) ≤ 1000 := by omega); (have hlc : (l.length : Int) ≤ (cap : Int) := by omega); (obtain ⟨al, hal⟩ : ∃ al, al = bm N fun _ => true := ⟨_, rfl⟩); (have HAl : Hid (al = bm N fun _ => true) := hal); (have HBl : Hid (∀ w, Calls Try.prog 56 #[.int .i64 (N : Nat)] w fun e w' => e = .returned (.int .u64 (al : Nat)) ∧ w' = w) := fun w => by rw [hal]; exact set_below hN w); obtain ⟨q, hq⟩ : ∃ q, q = N * l.length := ⟨_, rfl⟩; (have hqI : (N : Int) * (l.length : Int) = (q : Int) := by rw [hq]; simp); (have hq12 : q ≤ 12 := by omega); (have hqb : (q : Int) ≤ 12 := by omega); obtain ⟨M, hM⟩ : ∃ M, M = 2 ^ q := ⟨_, rfl⟩; (have hM4 : M ≤ 4096 := by rw [hM]; exact Nat.le_trans (Nat.pow_le_pow_right (by omega) hq12) (by decide)); (have HMI : Hid ((M : Int) ≤ 4096) := by show _ ≤ _; omega)
  have HWr : Hid (IntKind.u64.wrap ((2 : Int) ^ q) = (M : Int)) := by
    (have e : (2 : Int) ^ q = ((2 ^ q : Nat) : Int) := by simp); show _ = _; rw [e, ← hM]; refine wraps_u64 _ (Int.natCast_nonneg _) ?_; (have : ((2 : Int) ^ 62) = 4611686018427387904 := by decide); rw [this]; omega
  (have HHB : Hid (holdsB N (seeR N R) l (.mk k n ks) = (List.range M).all fun row => (List.range N).all fun u => mtv (seeR N R) (pH N l row) (.mk k n ks) u) := by show _ = _; rw [holdsB, hM, hq]); generalize holdsB N (seeR N R) l (.mk k n ks) = HBv at *; have hmm := @run_makeMap Try.prog; obtain ⟨X0, hX0⟩ : ∃ X0, X0 = (w.alloc (.cells #[.slice (some ⟨g, 0, none⟩) N N] 72 (0, 0))).alloc (.cells #[.int .i64 k, .string n, .slice sl ks.length cp] 28 (0, 0)) := ⟨_, rfl⟩; obtain ⟨W, hW⟩ : ∃ W, W = ((X0.alloc (.cells #[.int .u64 (al : Nat)] 69 (0, 0))).alloc (.map #[] 0)).alloc (.cells #[.map (some (w.heap.size + 1 + 1 + 1))] 119 (0, 0)) := ⟨_, rfl⟩; (have hBq : X0.heap.size = w.heap.size + 1 + 1 := by rw [hX0]; simp); have hs0 : w.heap.size + 1 + 1 = w.heap.size + 2 := rfl; have HBq : Hid (w.heap.size + 1 + 1 = w.heap.size + 2) := hs0; (have HW0 : Hid (W.heap[w.heap.size]? = some (.cells #[.slice (some ⟨g, 0, none⟩) N N] 72 (0, 0))) := by rw [hW, hX0]; exact alloc_keep (alloc_keep (alloc_keep (alloc_keep (blk_new w _) _) _) _) _); (have HW1 : Hid (W.heap[w.heap.size + 1]? = some (.cells #[.int .i64 k, .string n, .slice sl ks.length cp] 28 (0, 0))) := by rw [hW, hX0]; exact alloc_keep (alloc_keep (alloc_keep (blk_secE w _ _) _) _) _)
  have HW2 : Hid (W.heap[w.heap.size + 1 + 1]? = some (.cells #[.int .u64 (al : Nat)] 69 (0, 0))) := by
    rw [hW]; have := blk_new X0 (.cells #[.int .u64 (al : Nat)] 69 (0, 0)); rw [hBq] at this; exact alloc_keep (alloc_keep this _) _
  have HW4 : Hid (W.heap[w.heap.size + 1 + 1 + 1 + 1]? = some (.cells #[.map (some (w.heap.size + 1 + 1 + 1))] 119 (0, 0))) := by
    rw [hW]; have := blk_new ((X0.alloc (.cells #[.int .u64 (al : Nat)] 69 (0, 0))).alloc (.map #[] 0)) (.cells #[.map (some (w.heap.size + 1 + 1 + 1))] 119 (0, 0)); (rw [show ((X0.alloc (.cells #[.int .u64 (al : Nat)] 69 (0, 0))).alloc (.map #[] 0)).heap.size = w.heap.size + 1 + 1 + 1 + 1 by simp [hBq]] at this); exact this
  have HPW : Hid (PM W (w.heap.size + 1 + 1 + 1) []) := by
    rw [hW]; have := (PM.nil (w := X0.alloc (.cells #[.int .u64 (al : Nat)] 69 (0, 0)))).up (below_more (Below.refl _ _) (.cells #[.map (some (w.heap.size + 1 + 1 + 1))] 119 (0, 0))); (rw [show (X0.alloc (.cells #[.int .u64 (al : Nat)] 69 (0, 0))).heap.size = w.heap.size + 1 + 1 + 1 by simp [hBq]] at this); exact this
  (have HBW : Hid (Below w.heap.size w W) := by rw [hW, hX0]; exact below_more (below_more (below_more (below_more (below_more (Below.refl _ w) _) _) _) _) _); clear hs0 hBq hal hq hM hM4 h3 h1 h2 hv hF hnd hsm hl hl2 hf hN hq12; rw [hX0] at hW; clear hX0
  go_enter Try.func38, Try.ntmps38
  go_wp2_with fail; refine (HBl.out _).mono ?_; rintro _ _ ⟨rfl, rfl⟩; go_wp2_with fail; rw [← hW]; clear hW hmm
  go_loopg [19] l.length (fun gg c wr => ∃ i, i ≤ l.length ∧ gg = l.length - i ∧ c = .int .i64 (i : Nat) ∧ Hid (Kept (· ≠ w.heap.size + 1 + 1 + 1) W wr) ∧ Hid (PM wr (w.heap.size + 1 + 1 + 1) (l.take i)))
  case atStart => exact ⟨0, by omega, by omega, rfl, Kept.refl _ _, HPW⟩
  case round =>
    obtain ⟨i, hi, hg, rfl, HKr, HPr⟩ := hrel; have HG : Hid (gk = l.length - i) := hg; clear hg; (have HP4 : Hid (wr.heap[w.heap.size + 1 + 1 + 1 + 1]? = some (.cells #[.map (some (w.heap.size + 1 + 1 + 1))] 119 (0, 0))) := (HKr.out.block _ (lt_of_block HW4.out) (by omega)).trans HW4.out); obtain ⟨c4, -⟩ := blk1 HP4.out; by_cases hlt : i < l.length
    · obtain ⟨t, ht⟩ : ∃ x, l[i]? = some x := ⟨_, List.getElem?_eq_getElem hlt⟩
      (obtain ⟨lb, off, rfl, hc⟩ := H3.out (fun e => by rw [e] at hlt; simp at hlt)); (have HBw : Hid (Below w.heap.size w wr) := HBW.out.trans (HKr.out.below HBW.out.size fun k hk => by have := HBq.out; omega)); have g0 := (HBw.out.cell (lt_of_cell (hc i t ht))).trans (hc i t ht); (have hltI : (i : Int) < (l.length : Int) := by omega); (have hltc : (i : Int) < (cap : Int) := by omega); obtain ⟨en, D, hown, hen, hh1, hh2⟩ := HPr.out; (have hkey := keyStr t (by have := HSm.out t (List.mem_of_getElem? ht); unfold maxLen; omega)); (have hti : (l.take i).length = i := by rw [List.length_take]; omega)
      have HT : Hid (l.take (i + 1) = l.take i ++ [t]) := by
        show _ = _; rw [List.take_add_one, ht]; rfl
      have HNx : Hid (∀ w', w'.ownsMap Try.prog 9 (plainElem Try.prog 3) (w.heap.size + 1 + 1 + 1) (en + 1) (D.put (.string t) (.lit (.int .i64 (i : Nat)))) → PM w' (w.heap.size + 1 + 1 + 1) (l.take (i + 1))) := fun w' h => by
        rw [HT.out]; refine PM.snoc hen hown.isMap hh1 hh2 ?_; rw [hti]; exact h
      generalize (⟨t.toArray⟩ : ByteArray) = T at *; clear hc ht hh1 hh2 HPr
      go_wp2_with (first
        | (at_mapUpdate
           (refine wpList_mapUpdate_own _ rfl _ _ _ 119 rfl 9 3 strKeyed Try.underlying119 _ (w.heap.size + 1 + 1 + 1) en _ rfl hown (by unfold maxLen; omega) _ _ _ rfl rfl hkey _ [] (plainElem_int Try.underlying3 (WalkArith.wf_i64 (by omega))) ?_); intro w1 hown1 hgrow1; have HR1 : Hid (PM w1 (w.heap.size + 1 + 1 + 1) (l.take (i + 1))) := HNx.out _ hown1; (have HR2 : Hid (Kept (· ≠ w.heap.size + 1 + 1 + 1) W w1) := HKr.out.trans (kept_grown hgrow1 fun k h e => h (by cases e; rfl)))
           clear hown1 hgrow1 hown)
        | fail)
      go_roundg (l.length - (i + 1))
      case measure => have := HG.out; omega
      case rel => exact ⟨i + 1, by omega, rfl, by go_num, HR2, HR1⟩
    · have hii : i = l.length := by omega
      subst hii; rw [List.take_length] at HPr; (have hge : ¬ (l.length : Int) < (l.length : Int) := by omega); (have HBU : Hid (Below w.heap.size w wr) := HBW.out.trans (HKr.out.below HBW.out.size fun k hk => by have := HBq.out; omega)); (have HU0 : Hid (wr.heap[w.heap.size]? = some (.cells #[.slice (some ⟨g, 0, none⟩) N N] 72 (0, 0))) := (HKr.out.block _ (lt_of_block HW0.out) (by have := HBq.out; omega)).trans HW0.out); (have HU1 : Hid (wr.heap[w.heap.size + 1]? = some (.cells #[.int .i64 k, .string n, .slice sl ks.length cp] 28 (0, 0))) := (HKr.out.block _ (lt_of_block HW1.out) (by have := HBq.out; omega)).trans HW1.out); (have HU2 : Hid (wr.heap[w.heap.size + 1 + 1]? = some (.cells #[.int .u64 (al : Nat)] 69 (0, 0))) := (HKr.out.block _ (lt_of_block HW2.out) (by omega)).trans HW2.out); obtain ⟨k0, -⟩ := blk1 HU0.out; have hwr := HWr.out; clear hlt hi; go_wp2_with fail; clear k0 hwr c4 hge; obtain ⟨U, hU⟩ : ∃ U, U = wr := ⟨_, rfl⟩; subst hU
      go_loopg [34] M (fun gg c wr => ∃ row, row ≤ M ∧ gg = M - row ∧ c = .int .u64 (row : Nat) ∧ Hid (∀ j, j < row → ∀ u, u < N → mtv (seeR N R) (pH N l j) (.mk k n ks) u = true) ∧ Hid (Below U.heap.size U wr))
      case atStart => exact ⟨0, by omega, by omega, rfl, fun j h => absurd h (Nat.not_lt_zero _), Below.refl _ _⟩
      case round =>
        obtain ⟨row, hrw, hg, rfl, HAll, HBr⟩ := hrel; have HGr : Hid (gk = M - row) := hg; clear hg; have hMI := HMI.out; by_cases hlt : row < M
        · have hltI : (row : Int) < (M : Int) := by omega
          have HRM : Hid (row < M) := hlt; (have HRw : Hid (row < 1099511627776) := by show _ < _; omega); obtain ⟨X, hX⟩ : ∃ X, wr.alloc (.cells #[.int .u64 (row : Nat)] 69 (0, 0)) = X := ⟨_, rfl⟩; (have HBXr : Hid (Below wr.heap.size wr X) := by rw [← hX]; exact below_more (Below.refl _ _) _); have HWX : Hid (Below U.heap.size U X) := below_join HBr.out HBXr.out; have HBX : Hid (Below w.heap.size w X) := below_join HBU.out HWX.out; (have HXr : Hid (X.heap[wr.heap.size]? = some (.cells #[.int .u64 (row : Nat)] 69 (0, 0))) := by rw [← hX]; exact blk_new _ _); have HX0 : Hid (X.heap[w.heap.size]? = some (.cells #[.slice (some ⟨g, 0, none⟩) N N] 72 (0, 0))) := below_keep HWX.out HU0.out; have HX1 : Hid (X.heap[w.heap.size + 1]? = some (.cells #[.int .i64 k, .string n, .slice sl ks.length cp] 28 (0, 0))) := below_keep HWX.out HU1.out; have HX2 : Hid (X.heap[w.heap.size + 1 + 1]? = some (.cells #[.int .u64 (al : Nat)] 69 (0, 0))) := below_keep HWX.out HU2.out; have HX4 : Hid (X.heap[w.heap.size + 1 + 1 + 1 + 1]? = some (.cells #[.map (some (w.heap.size + 1 + 1 + 1))] 119 (0, 0))) := below_keep HWX.out HP4.out; have HPX : Hid (PM X (w.heap.size + 1 + 1 + 1) l) := HPr.out.up HWX.out; obtain ⟨z, hz⟩ : ∃ z, z = bm N (mtv (seeR N R) (pH N l row) (.mk k n ks)) := ⟨_, rfl⟩; have HZ : Hid (z = bm N (mtv (seeR N R) (pH N l row) (.mk k n ks))) := hz
          have HOk : Hid (z = al → ∀ u, u < N → mtv (seeR N R) (pH N l row) (.mk k n ks) u = true) := fun h u hu => by
            rw [HZ.out, HAl.out] at h; exact bm_inj h u hu
          have HNo : Hid (z ≠ al → HBv = false) := fun h => by
            rw [HHB.out]; (refine List.all_eq_false.2 ⟨row, List.mem_range.2 HRM.out, fun h2 => h ?_⟩); rw [List.all_eq_true] at h2; rw [HZ.out, HAl.out]; (exact bm_ext fun u hu => h2 u (List.mem_range.2 hu))
          (have hmf : ∀ (fn : Fn) (first cap : Array Value) (w : World), (Instr.makeFunc fn first cap).run Try.prog w = .ok (.func fn first cap) w := fun _ _ _ _ => rfl); clear hlt hrw hz hMI; go_wp2_with fail; clear hmf hX; (refine wp_region_free (by kernel_rfl) [fun v _ => v = (.slice (some ⟨g, 0, none⟩) N N), fun v _ => v = (.agg #[.int .i64 k, .string n, .slice sl ks.length cp]), fun v _ => v = (.func (.func 68) #[] #[.pointer (some ⟨wr.heap.size, 0, none⟩), .pointer (some ⟨w.heap.size, 0, none⟩), .pointer (some ⟨w.heap.size + 1 + 1 + 1 + 1, 0, none⟩), .pointer (some ⟨w.heap.size + 1 + 1, 0, none⟩)]), fun v _ => v = (.int .u64 (z : Nat)), fun v _ => v = (.int .u64 (al : Nat)), fun v _ => v = .bool (((z : Nat) : Int) != ((al : Nat) : Int))] ?_ (by kernel_rfl) (by kernel_rfl) 45 rfl (by kernel_rfl) ?_ ?_)
          · intro p hp
            simp only [List.mem_cons, List.not_mem_nil, or_false] at hp
            rcases hp with rfl | rfl | rfl | rfl | rfl | rfl
            · exact fun _ _ _ h _ => h
            · exact fun _ _ _ h _ => h
            · exact fun _ _ _ h _ => h
            · exact fun _ _ _ h _ => h
            · exact fun _ _ _ h _ => h
            · exact fun _ _ _ h _ => h
          · refine ⟨?_, ?_, ?_, ?_, ?_, ?_, trivial⟩
            · intro a wx hB hold hdep K hK
              have t3 : a.tmps[3]? = some (.pointer (some ⟨w.heap.size, 0, none⟩)) := hold.2.2 3 rfl; obtain ⟨k0, -⟩ := blk1 (below_keep hB HX0.out); clear hold hdep; go_simp; exact hK.out _ _ rfl (Below.refl _ _)
            · intro a wx hB hold hdep K hK
              have t4 : a.tmps[4]? = some (.pointer (some ⟨w.heap.size + 1, 0, none⟩)) := hold.2.2 4 rfl; obtain ⟨k0, k1, k2, -⟩ := blk3 (below_keep hB HX1.out); clear hold hdep; go_simp; exact hK.out _ _ rfl (Below.refl _ _)
            · intro a wx hB hold hdep K hK
              have t12 : a.tmps[12]? = some (.func (.func 68) #[] #[.pointer (some ⟨wr.heap.size, 0, none⟩), .pointer (some ⟨w.heap.size, 0, none⟩), .pointer (some ⟨w.heap.size + 1 + 1 + 1 + 1, 0, none⟩), .pointer (some ⟨w.heap.size + 1 + 1, 0, none⟩)]) := hold.2.2 12 rfl; clear hold hdep; go_simp; exact hK.out _ _ rfl (Below.refl _ _)
            · intro a wx hB hold hdep K hK
              obtain ⟨v38, t38, p38⟩ := hdep 0 rfl _ 38 rfl rfl; have e38 : v38 = (.slice (some ⟨g, 0, none⟩) N N) := p38; subst e38; obtain ⟨v39, t39, p39⟩ := hdep 1 rfl _ 39 rfl rfl; have e39 : v39 = (.agg #[.int .i64 k, .string n, .slice sl ks.length cp]) := p39; subst e39; obtain ⟨v40, t40, p40⟩ := hdep 2 rfl _ 40 rfl rfl; have e40 : v40 = (.func (.func 68) #[] #[.pointer (some ⟨wr.heap.size, 0, none⟩), .pointer (some ⟨w.heap.size, 0, none⟩), .pointer (some ⟨w.heap.size + 1 + 1 + 1 + 1, 0, none⟩), .pointer (some ⟨w.heap.size + 1 + 1, 0, none⟩)]) := p40; subst e40
              have HW : Hid (Calls Try.prog 34 #[(.slice (some ⟨g, 0, none⟩) N N), (.agg #[.int .i64 k, .string n, .slice sl ks.length cp]), (.func (.func 68) #[] #[.pointer (some ⟨wr.heap.size, 0, none⟩), .pointer (some ⟨w.heap.size, 0, none⟩), .pointer (some ⟨w.heap.size + 1 + 1 + 1 + 1, 0, none⟩), .pointer (some ⟨w.heap.size + 1 + 1, 0, none⟩)])] wx fun e w' => e = .returned (.int .u64 (z : Nat)) ∧ Below wx.heap.size wx w') := by
                rw [HZ.out]; (exact where_any HN.out (havX HN.out l HNd.out HLl.out wr.heap.size w.heap.size (w.heap.size + 1 + 1 + 1 + 1) (w.heap.size + 1 + 1) row g HRw.out) g R (.mk k n ks) _ wx HFi.out ((HRep.out.up HBX.out).up hB) ((HFr.out.up HBX.out).up hB) ⟨w.heap.size + 1 + 1 + 1, below_keep hB HXr.out, below_keep hB HX0.out, below_keep hB HX4.out, by have := below_keep hB HX2.out; rw [HAl.out] at this; exact this, HPX.out.up hB⟩)
              clear hold hdep; go_simp; refine HW.out.mono ?_; rintro _ w9 ⟨rfl, hb9⟩; go_simp; exact hK.out _ _ rfl hb9
            · intro a wx hB hold hdep K hK
              have t7 : a.tmps[7]? = some (.pointer (some ⟨w.heap.size + 1 + 1, 0, none⟩)) := hold.2.2 7 rfl; obtain ⟨k0, -⟩ := blk1 (below_keep hB HX2.out); clear hold hdep; go_simp; exact hK.out _ _ rfl (Below.refl _ _)
            · intro a wx hB hold hdep K hK
              obtain ⟨v41, t41, p41⟩ := hdep 3 rfl _ 41 rfl rfl; have e41 : v41 = (.int .u64 (z : Nat)) := p41; subst e41; obtain ⟨v42, t42, p42⟩ := hdep 4 rfl _ 42 rfl rfl; have e42 : v42 = (.int .u64 (al : Nat)) := p42; subst e42; clear hold hdep; go_simp; exact hK.out _ _ rfl (Below.refl _ _)
          · intro a wx hB hold hgot
            obtain ⟨vA, tvA, pvA⟩ := hgot 5 _ 43 rfl rfl; have eA : vA = .bool (((z : Nat) : Int) != ((al : Nat) : Int)) := pvA; subst eA; have HBx : Hid (Below X.heap.size X wx) := hB; obtain ⟨tm, df⟩ := a; (obtain ⟨ys, hys, htm, rfl⟩ := frame_mid2 38 6 (by kernel_rfl) (Nat.le_of_ble_eq_true rfl) hold); obtain ⟨x38, x39, x40, x41, x42, x43, rfl⟩ := rowE6 ys hys; simp only [List.take_succ_cons, List.take_zero, List.drop_succ_cons, List.drop_zero, List.cons_append, List.nil_append] at htm; subst htm; obtain rfl : x43 = _ := someInjM tvA; clear hys hold hgot tvA pvA hB; by_cases hzz : z = al
            · have hne : (((z : Nat) : Int) != ((al : Nat) : Int)) = false := by simp [hzz]
              rw [hne]; go_wp2_with fail
              go_roundg (M - (row + 1))
              case measure => have := HGr.out; have := HRM.out; omega
              case rel =>
                (refine ⟨row + 1, HRM.out, rfl, u64_succ HRM.out HMI.out, fun j hj => ?_, below_join HWX.out HBx.out⟩); by_cases e : j = row
                · rw [e]; exact HOk.out hzz
                · exact HAll.out j (by omega)
            · have hne : (((z : Nat) : Int) != ((al : Nat) : Int)) = true := by rw [bne_iff_ne]; exact fun h => hzz (Int.ofNat.inj h)
              rw [hne]; go_wp2_with fail; go_ret; refine ⟨?_, below_join HBX.out HBx.out⟩; rw [HNo.out hzz]; rfl
        · have hrr : row = M := by omega
          subst hrr; (have hge : ¬ (row : Int) < (row : Int) := by omega); clear hlt hrw; go_wp2_with fail; go_ret; refine ⟨?_, below_join HBU.out HBr.out⟩
          have e : HBv = true := by
            rw [HHB.out, List.all_eq_true]; intro j hj; rw [List.all_eq_true]; (exact fun u hu => HAll.out j (List.mem_range.1 hj) u (List.mem_range.1 hu))
          rw [e]; rfl
end Go.Proofs.Ytmahgfgndfcmpag
/- Walks: modal.Holds. -/
namespace Go.Proofs.Ytmahgfgndfcmpag
open Go.RowKit

set_option maxHeartbeats 4000000 in
theorem hold_bad (m : Mdl) (f : Fm) (h0 : (mfcode m f).1 ≠ 0) (v u : Value) (w : World) (hv : MR w m v) (hu : Rep w (fun _ => True) f u) :
    Calls Try.prog 12 #[v, u] w fun e w' => e = .returned (.tuple #[.bool false, .agg #[.int .i64 (mfcode m f).1, .int .i64 (mfcode m f).2]]) ∧ Below w.heap.size w w' := by
  (have HFF : Hid (∀ w, MR w m v → Rep w (fun _ => True) f u → Calls Try.prog 31 #[v, u] w fun e w' => e = .returned (.agg #[.int .i64 (mfcode m f).1, .int .i64 (mfcode m f).2]) ∧ Below w.heap.size w w') := fun w h1 h2 => firstFault_any m f v u w h1 h2); have HV : Hid (MR w m v) := hv; (have HRep : Hid (Rep w (fun _ => True) f u) := hu); obtain ⟨ra, rc, ta, tc, rfl, -⟩ := hv; obtain ⟨k, n, ks⟩ := f; obtain ⟨sl, cp, rfl⟩ := slice_shape hu; generalize mfcode m (.mk k n ks) = md at *; obtain ⟨c, a⟩ := md; (have hcn : (c != 0) = true := by simpa using h0); obtain ⟨W, hW⟩ : ∃ W, W = ((w.alloc (.cells #[.int .i64 m.n, .slice ra m.rel.length rc, .slice ta m.tr.length tc] 25 (0, 0))).alloc (.cells #[.int .i64 k, .string n, .slice sl ks.length cp] 28 (0, 0))).alloc (.cells #[.int .i64 0, .int .i64 0] 34 (0, 0)) := ⟨_, rfl⟩; (have HB0 : Hid (Below w.heap.size w W) := by rw [hW]; exact below_more (below_more (below_more (Below.refl _ w) _) _) _); obtain ⟨-, -, b3⟩ := blk_threeM w (.cells #[.int .i64 m.n, .slice ra m.rel.length rc, .slice ta m.tr.length tc] 25 (0, 0)) (.cells #[.int .i64 k, .string n, .slice sl ks.length cp] 28 (0, 0)) (.cells #[.int .i64 0, .int .i64 0] 34 (0, 0)); rw [← hW] at b3; have HQ2 : Hid (W.heap[w.heap.size + 1 + 1]? = some (.cells #[.int .i64 0, .int .i64 0] 34 (0, 0))) := b3; clear b3 hu h0
  go_enter Try.func12, Try.ntmps12
  go_wp2_with fail; rw [← hW]; refine (HFF.out _ (HV.out.up HB0.out) (HRep.out.up HB0.out)).mono ?_; rintro _ w1 ⟨rfl, hb1⟩; have HB1 : Hid (Below w.heap.size w w1) := below_join HB0.out hb1; have HR1 : Hid (w1.heap[w.heap.size + 1 + 1]? = some (.cells #[.int .i64 0, .int .i64 0] 34 (0, 0))) := below_keep hb1 HQ2.out; clear hb1 hW; obtain ⟨X, hX⟩ : ∃ X, w1.alloc (.cells #[.int .i64 c, .int .i64 a] 34 (0, 0)) = X := ⟨_, rfl⟩; (have HXr : Hid (X.heap[w.heap.size + 1 + 1]? = some (.cells #[.int .i64 0, .int .i64 0] 34 (0, 0))) := by rw [← hX]; exact alloc_keep HR1.out _); obtain ⟨q20, q21, q22, q23⟩ := blk2 HXr.out; (obtain ⟨q30, q31, -⟩ := blk2 (show X.heap[w1.heap.size]? = some _ by rw [← hX]; exact blk_new _ _)); (have HBX : Hid (Below w.heap.size w X) := by rw [← hX]; exact below_more HB1.out _); go_wp2_with fail
  go_region
  all_goals
    go_wp2_with fail; have f2 := set2 HXr.out (.int .i64 c) (.int .i64 a); (have b2 := (HBX.out.setCell (p := ⟨w.heap.size + 1 + 1, 0, none⟩) (by simp; omega) (.int .i64 c)).setCell (p := ⟨w.heap.size + 1 + 1, 1, none⟩) (by simp; omega) (.int .i64 a)); generalize World.setCell _ _ _ = F at f2 b2 ⊢; clear q20 q21 q22 q23; obtain ⟨o1, o2, -⟩ := blk2 f2; (exact bodyPost_ret (v := .tuple #[.bool false, .agg #[.int .i64 c, .int .i64 a]]) (by simp [results, Try.results12, go_sem, o1, o2]) rfl ⟨rfl, b2.drew⟩)
theorem nmsU_200 {f : Fm} {s : Nat} (hc : chk f 0 = .ok s) : (nmsU f).length ≤ 200 := by
  have h1 : (nmsU f).length ≤ (nmsT f).length := by
    unfold nmsU; refine Nat.le_trans (compact_len _) ?_; rw [List.length_mergeSort]; exact Nat.le_refl _
  have h2 : (nmsT f).length ≤ f.size := by
    unfold nmsT; rw [List.length_map, ← allN_len]; exact nmsOf_len _
  have := chk_size hc; omega
set_option maxRecDepth 10000 in
set_option maxHeartbeats 8000000 in
theorem hold_ok (N : Nat) (hN : N ≤ 40) (rel : List (Int × Int)) (hrl : rel.length ≤ 2000) (hin : InR N rel) (tr : List (List (List UInt8))) (f : Fm) (hf : Fine f) (hcf : f.code = (0, 0)) (h0 : mfcode ⟨(N : Int), rel, tr⟩ f = (0, 0)) (v u : Value) (w : World) (hv : MR w ⟨(N : Int), rel, tr⟩ v) (hu : Rep w (fun _ => True) f u) :
    Calls Try.prog 12 #[v, u] w fun e w' => (N * (nmsU f).length ≤ 12 → e = .returned (.tuple #[.bool (holdsB N (seeR N (relB rel)) (nmsU f) f), .agg #[.int .i64 0, .int .i64 0]])) ∧ (12 < N * (nmsU f).length → e = .returned (.tuple #[.bool false, .agg #[.int .i64 2, .int .i64 0]])) ∧ Below w.heap.size w w' := by
  obtain ⟨ec, hec⟩ : ∃ ec : Int, (0 : Int) = ec := ⟨_, rfl⟩; obtain ⟨ea, hea⟩ : ∃ ea : Int, ((0 : Int), (0 : Int)).2 = ea := ⟨_, rfl⟩
  have HFF : Hid (∀ w, MR w ⟨(N : Int), rel, tr⟩ v → Rep w (fun _ => True) f u → Calls Try.prog 31 #[v, u] w fun e w' => e = .returned (.agg #[.int .i64 ec, .int .i64 ea]) ∧ Below w.heap.size w w') := fun w h1 h2 => by
    have := firstFault_any ⟨(N : Int), rel, tr⟩ f v u w h1 h2; rw [h0] at this; rw [← hec, ← hea]; exact this
  (have hcn : (ec != 0) = false := by rw [← hec]; rfl); obtain ⟨cs, hcs⟩ := code_chk hcf
  have HNm : Hid (∀ w, Rep w (fun _ => True) f u → Calls Try.prog 37 #[u] w fun e w' => ∃ x, e = .returned (.tuple #[x, .agg #[.int .i64 ec, .int .i64 ea]]) ∧ TL w' x (nmsU f) ∧ Below w.heap.size w w') := fun w h => by
    have := names_ok f u w h cs hcs; rw [← hec, ← hea]; exact this
  have hnl : (nmsU f).length ≤ 200 := nmsU_200 hcs; have HV : Hid (MR w ⟨(N : Int), rel, tr⟩ v) := hv; (have HRep : Hid (Rep w (fun _ => True) f u) := hu); have HN : Hid (N ≤ 40) := hN; have HRl : Hid (rel.length ≤ 2000) := hrl; have HIn : Hid (InR N rel) := hin; have HFi : Hid (Fine f) := hf; obtain ⟨ra, rc, ta, tc, rfl, hpl, -, -⟩ := hv; simp only at hpl HFF HV ⊢; have HPl : Hid (PL w (.slice ra rel.length rc) rel) := hpl; obtain ⟨k, n, ks⟩ := f; obtain ⟨sl, cp, rfl⟩ := slice_shape hu; (have hNI : (N : Int) ≤ 40 := by omega); obtain ⟨hv, hhv⟩ : ∃ hv, hv = holdsB N (seeR N (relB rel)) (nmsU (.mk k n ks)) (.mk k n ks) := ⟨_, rfl⟩; have HHv : Hid (hv = holdsB N (seeR N (relB rel)) (nmsU (.mk k n ks)) (.mk k n ks)) := hhv; rw [← hhv]; obtain ⟨nl, hnle⟩ : ∃ nl, nl = (nmsU (.mk k n ks)).length := ⟨_, rfl⟩; obtain ⟨q, hq⟩ : ∃ q, q = N * nl := ⟨_, rfl⟩; (have hqI : (N : Int) * ((nmsU (.mk k n ks)).length : Int) = (q : Int) := by rw [hq, hnle]; simp); (have hqb : q ≤ 8000 := by rw [hq]; exact Nat.mul_le_mul hN (show nl ≤ 200 by rw [hnle]; exact hnl)); (have hqbI : (q : Int) ≤ 8000 := by omega); (have HQ : Hid (N * (nmsU (.mk k n ks)).length = q) := by rw [hq, hnle]; rfl); rw [HQ.out]; (have HL1k : Hid ((nmsU (.mk k n ks)).length ≤ 1000) := by show _ ≤ _; omega); (have hnlI : ((nmsU (.mk k n ks)).length : Int) ≤ 200 := by omega); obtain ⟨W, hW⟩ : ∃ W, W = ((w.alloc (.cells #[.int .i64 (N : Nat), .slice ra rel.length rc, .slice ta tr.length tc] 25 (0, 0))).alloc (.cells #[.int .i64 k, .string n, .slice sl ks.length cp] 28 (0, 0))).alloc (.cells #[.int .i64 0, .int .i64 0] 34 (0, 0)) := ⟨_, rfl⟩; (have HB0 : Hid (Below w.heap.size w W) := by rw [hW]; exact below_more (below_more (below_more (Below.refl _ w) _) _) _); obtain ⟨b1, b2, b3⟩ := blk_threeM w (.cells #[.int .i64 (N : Nat), .slice ra rel.length rc, .slice ta tr.length tc] 25 (0, 0)) (.cells #[.int .i64 k, .string n, .slice sl ks.length cp] 28 (0, 0)) (.cells #[.int .i64 0, .int .i64 0] 34 (0, 0)); rw [← hW] at b1 b2 b3; have HQ0 : Hid (W.heap[w.heap.size]? = some (.cells #[.int .i64 (N : Nat), .slice ra rel.length rc, .slice ta tr.length tc] 25 (0, 0))) := b1; have HQ1 : Hid (W.heap[w.heap.size + 1]? = some (.cells #[.int .i64 k, .string n, .slice sl ks.length cp] 28 (0, 0))) := b2; have HQ2 : Hid (W.heap[w.heap.size + 1 + 1]? = some (.cells #[.int .i64 0, .int .i64 0] 34 (0, 0))) := b3; clear b1 b2 b3 hu hpl hN hrl hin hf h0 hec hea hcs hcf hnl hnle hq hqb hhv
  go_enter Try.func12, Try.ntmps12
  go_wp2_with fail; rw [← hW]; refine (HFF.out _ (HV.out.up HB0.out) (HRep.out.up HB0.out)).mono ?_; rintro _ w1 ⟨rfl, hb1⟩; have HB1 : Hid (Below w.heap.size w w1) := below_join HB0.out hb1; have HQ01 : Hid (w1.heap[w.heap.size]? = some (.cells #[.int .i64 (N : Nat), .slice ra rel.length rc, .slice ta tr.length tc] 25 (0, 0))) := below_keep hb1 HQ0.out; have HQ11 : Hid (w1.heap[w.heap.size + 1]? = some (.cells #[.int .i64 k, .string n, .slice sl ks.length cp] 28 (0, 0))) := below_keep hb1 HQ1.out; have HQ21 : Hid (w1.heap[w.heap.size + 1 + 1]? = some (.cells #[.int .i64 0, .int .i64 0] 34 (0, 0))) := below_keep hb1 HQ2.out; clear hb1 hW; obtain ⟨Y, hY⟩ : ∃ Y, w1.alloc (.cells #[.int .i64 ec, .int .i64 ea] 34 (0, 0)) = Y := ⟨_, rfl⟩; (have HBY : Hid (Below w.heap.size w Y) := by rw [← hY]; exact below_more HB1.out _); (have HY0 : Hid (Y.heap[w.heap.size]? = some (.cells #[.int .i64 (N : Nat), .slice ra rel.length rc, .slice ta tr.length tc] 25 (0, 0))) := by rw [← hY]; exact alloc_keep HQ01.out _); (have HY1 : Hid (Y.heap[w.heap.size + 1]? = some (.cells #[.int .i64 k, .string n, .slice sl ks.length cp] 28 (0, 0))) := by rw [← hY]; exact alloc_keep HQ11.out _); (have HY2 : Hid (Y.heap[w.heap.size + 1 + 1]? = some (.cells #[.int .i64 0, .int .i64 0] 34 (0, 0))) := by rw [← hY]; exact alloc_keep HQ21.out _); (obtain ⟨q30, q31, -⟩ := blk2 (show Y.heap[w1.heap.size]? = some _ by rw [← hY]; exact blk_new _ _)); obtain ⟨q10, q11, q12, -⟩ := blk3 HY1.out; go_wp2_with fail; refine (HNm.out _ (HRep.out.up HBY.out)).mono ?_; rintro _ w2 ⟨_, rfl, hTL, hb2⟩; obtain ⟨nad, ncap, rfl, t1, t2, t3⟩ := hTL
  have HSl2 : Hid (SL w2 (.slice nad (nmsU (.mk k n ks)).length ncap) (nmsU (.mk k n ks))) := by
    (refine ⟨nad, ncap, rfl, t1, t2, fun hne => ?_⟩); obtain ⟨gg, e, hc⟩ := t3 hne; (exact ⟨gg, 0, e, fun j t hj => by rw [Nat.zero_add]; exact hc j t hj⟩)
  have HB2 : Hid (Below w.heap.size w w2) := below_join HBY.out hb2; have HQ02 : Hid (w2.heap[w.heap.size]? = some (.cells #[.int .i64 (N : Nat), .slice ra rel.length rc, .slice ta tr.length tc] 25 (0, 0))) := below_keep hb2 HY0.out; have HQ12 : Hid (w2.heap[w.heap.size + 1]? = some (.cells #[.int .i64 k, .string n, .slice sl ks.length cp] 28 (0, 0))) := below_keep hb2 HY1.out; have HQ22 : Hid (w2.heap[w.heap.size + 1 + 1]? = some (.cells #[.int .i64 0, .int .i64 0] 34 (0, 0))) := below_keep hb2 HY2.out; clear hb2 hY q30 q31 q10 q11 q12 t1 t2 t3; obtain ⟨X, hX⟩ : ∃ X, w2.alloc (.cells #[.int .i64 ec, .int .i64 ea] 34 (0, 0)) = X := ⟨_, rfl⟩; (have HBX : Hid (Below w.heap.size w X) := by rw [← hX]; exact below_more HB2.out _); (have HX0 : Hid (X.heap[w.heap.size]? = some (.cells #[.int .i64 (N : Nat), .slice ra rel.length rc, .slice ta tr.length tc] 25 (0, 0))) := by rw [← hX]; exact alloc_keep HQ02.out _); (have HX1 : Hid (X.heap[w.heap.size + 1]? = some (.cells #[.int .i64 k, .string n, .slice sl ks.length cp] 28 (0, 0))) := by rw [← hX]; exact alloc_keep HQ12.out _); (have HX2 : Hid (X.heap[w.heap.size + 1 + 1]? = some (.cells #[.int .i64 0, .int .i64 0] 34 (0, 0))) := by rw [← hX]; exact alloc_keep HQ22.out _); (have HSL : Hid (SL X (.slice nad (nmsU (.mk k n ks)).length ncap) (nmsU (.mk k n ks))) := by rw [← hX]; exact HSl2.out.up (below_more (Below.refl _ _) _)); obtain ⟨q00, q01, q02, -⟩ := blk3 HX0.out; by_cases h12 : q ≤ 12
  · have hdI : decide ((12 : Int) < (q : Int)) = false := by rw [decide_eq_false_iff_not]; omega
    (have hnI : ¬ (12 : Int) < (q : Int) := by omega); (have HL12 : Hid (N * (nmsU (.mk k n ks)).length ≤ 12) := by show _ ≤ _; rw [HQ.out]; exact h12); have H12 : Hid (q ≤ 12) := h12; clear h12; go_wp2_with fail; clear q00 q01 q02 hX hdI hnI; (refine wp_region_last (by kernel_rfl) [fun v _ => v = (.agg #[.int .i64 (N : Nat), .slice ra rel.length rc, .slice ta tr.length tc]), fun v w => ∃ g, v = .slice (some ⟨g, 0, none⟩) N N ∧ FR w g N (relB rel), fun v _ => v = (.agg #[.int .i64 k, .string n, .slice sl ks.length cp]), fun v _ => v = (.slice nad (nmsU (.mk k n ks)).length ncap), fun v _ => v = (.bool hv), fun v _ => v = (.agg #[.int .i64 0, .int .i64 0]), fun v _ => v = (.bool hv)] ?_ (by kernel_rfl) (by kernel_rfl) 34 rfl (by kernel_rfl) 7 _ rfl rfl (by kernel_rfl) ?_ ?_)
    · intro p hp
      simp only [List.mem_cons, List.not_mem_nil, or_false] at hp
      rcases hp with rfl | rfl | rfl | rfl | rfl | rfl | rfl
      · exact fun _ _ _ h _ => h
      · rintro v w1 w2 ⟨g, e, h⟩ hb
        exact ⟨g, e, h.up hb⟩
      · exact fun _ _ _ h _ => h
      · exact fun _ _ _ h _ => h
      · exact fun _ _ _ h _ => h
      · exact fun _ _ _ h _ => h
      · exact fun _ _ _ h _ => h
    · refine ⟨?_, ?_, ?_, ?_, ?_, ?_, ?_, trivial⟩
      · intro a wx hB hold hdep K hK
        have t2 : a.tmps[2]? = some (.pointer (some ⟨w.heap.size, 0, none⟩)) := hold.2.2 2 rfl; obtain ⟨k0, k1, k2, -⟩ := blk3 (below_keep hB HX0.out); clear hold hdep; go_simp; exact hK.out _ _ rfl (Below.refl _ _)
      · intro a wx hB hold hdep K hK
        obtain ⟨v28, t28, p28⟩ := hdep 0 rfl _ 28 rfl rfl; have e28 : v28 = (.agg #[.int .i64 (N : Nat), .slice ra rel.length rc, .slice ta tr.length tc]) := p28; subst e28; have HW : Hid (Calls Try.prog 33 #[(.agg #[.int .i64 (N : Nat), .slice ra rel.length rc, .slice ta tr.length tc])] wx _) := frameOf_any N HN.out rel HRl.out HIn.out ra ta rc tr.length tc wx ((HPl.out.up HBX.out).up hB); clear hold hdep; go_simp; refine HW.out.mono ?_; rintro _ w9 ⟨g, rfl, -, hfr, hb9⟩; have H9 : Hid (FR w9 g N (relB rel)) := hfr; clear hfr; go_simp; exact hK.out _ _ ⟨g, rfl, H9.out⟩ hb9
      · intro a wx hB hold hdep K hK
        have t3 : a.tmps[3]? = some (.pointer (some ⟨w.heap.size + 1, 0, none⟩)) := hold.2.2 3 rfl; obtain ⟨k0, k1, k2, -⟩ := blk3 (below_keep hB HX1.out); clear hold hdep; go_simp; exact hK.out _ _ rfl (Below.refl _ _)
      · intro a wx hB hold hdep K hK
        have t7 : a.tmps[7]? = some (.slice nad (nmsU (.mk k n ks)).length ncap) := hold.2.2 7 rfl; clear hold hdep; go_simp; exact hK.out _ _ rfl (Below.refl _ _)
      · intro a wx hB hold hdep K hK
        obtain ⟨v29, t29, p29⟩ := hdep 1 rfl _ 29 rfl rfl; (have P29 : Hid ((fun v w => ∃ g, v = .slice (some ⟨g, 0, none⟩) N N ∧ FR w g N (relB rel)) v29 wx) := p29); clear p29; obtain ⟨v30, t30, p30⟩ := hdep 2 rfl _ 30 rfl rfl; have e30 : v30 = (.agg #[.int .i64 k, .string n, .slice sl ks.length cp]) := p30; subst e30; obtain ⟨v31, t31, p31⟩ := hdep 3 rfl _ 31 rfl rfl; have e31 : v31 = (.slice nad (nmsU (.mk k n ks)).length ncap) := p31; subst e31; obtain ⟨g, rfl, hfr⟩ := P29.out
        have HW : Hid (Calls Try.prog 38 #[.slice (some ⟨g, 0, none⟩) N N, (.agg #[.int .i64 k, .string n, .slice sl ks.length cp]), (.slice nad (nmsU (.mk k n ks)).length ncap)] wx fun e w' => e = .returned (.bool hv) ∧ Below wx.heap.size wx w') := by
          rw [HHv.out]; exact holds_any N HN.out (relB rel) (nmsU (.mk k n ks)) (nmsU_nodup _) (nmsU_small HFi.out) HL12.out HL1k.out (.mk k n ks) HFi.out g _ _ wx hfr ((HRep.out.up HBX.out).up hB) (HSL.out.up hB)
        clear hfr P29; clear hold hdep; go_simp; refine HW.out.mono ?_; rintro _ w9 ⟨rfl, hb9⟩; go_simp; exact hK.out _ _ rfl hb9
      · intro a wx hB hold hdep K hK
        clear hold hdep; go_simp; exact hK.out _ _ rfl (Below.refl _ _)
      · intro a wx hB hold hdep K hK
        obtain ⟨v32, t32, p32⟩ := hdep 4 rfl _ 32 rfl rfl; have e32 : v32 = (.bool hv) := p32; subst e32; clear hold hdep; go_simp; exact hK.out _ _ rfl (Below.refl _ _)
    · intro a wx hB hold hgot K hK
      (obtain ⟨vA, tvA, pvA⟩ := hgot 5 _ 33 (by omega) rfl rfl); have evA : vA = (.agg #[.int .i64 0, .int .i64 0]) := pvA; subst evA; (obtain ⟨vB, tvB, pvB⟩ := hgot 6 _ 4 (by omega) rfl rfl); have evB : vB = (.bool hv) := pvB; subst evB; have HBx : Hid (Below X.heap.size X wx) := hB; have HZx : Hid (wx.heap[w.heap.size + 1 + 1]? = some (.cells #[.int .i64 0, .int .i64 0] 34 (0, 0))) := below_keep hB HX2.out; obtain ⟨k1, k2, k3, k4⟩ := blk2 HZx.out; obtain ⟨tm, df⟩ := a; (obtain ⟨ys, zs, hys, hzs, htm, rfl⟩ := frame_two 4 1 23 6 5 28 34 rfl rfl rfl (by kernel_rfl) (Nat.le_of_ble_eq_true rfl) hold); obtain ⟨y4, rfl⟩ := rowE1 ys hys; obtain ⟨y28, y29, y30, y31, y32, y33, rfl⟩ := rowE6 zs hzs; simp only [List.take_succ_cons, List.take_zero, List.drop_succ_cons, List.drop_zero, List.cons_append, List.nil_append] at htm; subst htm; obtain rfl : y33 = _ := someInjM tvA; obtain rfl : y4 = _ := someInjM tvB; clear hys hzs hold hgot tvA pvA tvB pvB hB; go_simp; refine hK.out _ _ ?_; clear hK; have f2 := set2 HZx.out (.int .i64 0) (.int .i64 0); (have b2 := ((below_join HBX.out HBx.out).setCell (p := ⟨w.heap.size + 1 + 1, 0, none⟩) (by simp; omega) (.int .i64 0)).setCell (p := ⟨w.heap.size + 1 + 1, 1, none⟩) (by simp; omega) (.int .i64 0)); generalize World.setCell _ _ _ = F at f2 b2 ⊢; clear k1 k2 k3 k4; obtain ⟨o1, o2, -⟩ := blk2 f2; go_wp2_with fail; (exact bodyPost_ret (v := .tuple #[.bool hv, .agg #[.int .i64 0, .int .i64 0]]) (by simp [results, Try.results12, go_sem, o1, o2]) rfl ⟨fun _ => rfl, fun h => absurd H12.out (by omega), b2⟩)
  · have hI : (12 : Int) < (q : Int) := by omega
    (have H12 : Hid (12 < q) := by show _ < _; omega); clear h12; obtain ⟨k1, k2, k3, k4⟩ := blk2 HX2.out; go_wp2_with fail; have f2 := set2 HX2.out (.int .i64 2) (.int .i64 0); (have b2 := (HBX.out.setCell (p := ⟨w.heap.size + 1 + 1, 0, none⟩) (by simp; omega) (.int .i64 2)).setCell (p := ⟨w.heap.size + 1 + 1, 1, none⟩) (by simp; omega) (.int .i64 0)); generalize World.setCell _ _ _ = F at f2 b2 ⊢; clear k1 k2 k3 k4; obtain ⟨o1, o2, -⟩ := blk2 f2; (exact bodyPost_ret (v := .tuple #[.bool false, .agg #[.int .i64 2, .int .i64 0]]) (by simp [results, Try.results12, go_sem, o1, o2]) rfl ⟨fun h => absurd H12.out (by omega), fun _ => rfl, b2⟩)
end Go.Proofs.Ytmahgfgndfcmpag
/- Walks: what is so of all worlds, and of all with those that they see. -/
namespace Go.Proofs.Ytmahgfgndfcmpag
open Go.RowKit Go.Sort

/-- Numbers in memory. -/
def NL (w : World) (v : Value) (l : List Nat) : Prop := ∃ ad cap, v = .slice ad l.length cap ∧ l.length ≤ cap ∧ cap ≤ maxLen ∧ (l ≠ [] → ∃ b, ad = some ⟨b, 0, none⟩ ∧ ∀ (j n : Nat), l[j]? = some n → w.cell? ⟨b, j, none⟩ = some (.int .i64 (n : Nat)))
theorem NL.up {w w' : World} {v : Value} {l : List Nat} (h : NL w v l) (hb : Below w.heap.size w w') : NL w' v l := by
  obtain ⟨ad, cap, h1, h2, h3, h4⟩ := h; (refine ⟨ad, cap, h1, h2, h3, fun hne => ?_⟩); obtain ⟨b, h5, h6⟩ := h4 hne; (exact ⟨b, h5, fun j n hj => (hb.cell (lt_of_cell (h6 j n hj))).trans (h6 j n hj)⟩)
def memTo (P : Nat → Bool) (i : Nat) : List Nat := (List.range i).filter P
theorem memTo_succ (P : Nat → Bool) (i : Nat) : memTo P (i + 1) = if P i = true then memTo P i ++ [i] else memTo P i := by
  rw [memTo, List.range_succ, List.filter_append, memTo]; (by_cases h : P i = true <;> simp [h])
theorem memTo_len (P : Nat → Bool) (i : Nat) : (memTo P i).length ≤ i := by
  have := List.length_filter_le P (List.range i)
  rwa [List.length_range] at this
set_option maxRecDepth 10000 in
set_option maxHeartbeats 4000000 in
theorem set_members {N : Nat} (hN : N ≤ 40) (P : Nat → Bool) (w : World) :
    Calls Try.prog 102 #[.int .u64 (bm N P : Nat), .int .i64 (N : Nat)] w fun e w' => ∃ x, e = .returned x ∧ NL w' x (memTo P N) ∧ Below w.heap.size w w' := by
  (have hNI : (N : Int) ≤ 40 := by omega); (have HH : Hid (∀ n, n < N → ∀ w, Calls Try.prog 62 #[.int .u64 (bm N P : Nat), .int .i64 (n : Nat)] w fun e w' => e = .returned (.bool (P n)) ∧ w' = w) := fun n hn w => set_has hN P n hn w); have HN : Hid (N ≤ 40) := hN; generalize bm N P = s at *; clear hN
  go_enter Try.func102, Try.ntmps102
  go_wp2_with fail
  go_loopg [8, 5] N (fun gg cc x wr => ∃ i ad cp, i ≤ N ∧ gg = N - i ∧ cc = .int .i64 (i : Nat) ∧ x = .slice ad (memTo P i).length cp ∧ Hid (wr.ownsRow w.heap.size 3 1 (.slice ad (memTo P i).length cp) (memTo P i).length ((memTo P i).map encI)) ∧ Hid (Below w.heap.size w wr))
  case atStart => exact ⟨0, none, 0, by omega, by omega, rfl, rfl, ⟨rfl, Or.inl ⟨rfl, rfl⟩⟩, Below.refl _ _⟩
  case round =>
    obtain ⟨i, ad, cp, hi, hg, rfl, rfl, HOw, HB⟩ := hrel; have HGk : Hid (gk = N - i) := hg; clear hg; by_cases hlt : i < N
    · have hltI : (i : Int) < (N : Int) := by omega
      have HI : Hid (i < N) := hlt; (have HSc : Hid (memTo P (i + 1) = if P i = true then memTo P i ++ [i] else memTo P i) := memTo_succ P i); have HLn : Hid ((memTo P i).length ≤ i) := memTo_len P i; generalize memTo P i = LL at *; (have hlnI : (LL.length : Int) ≤ 40 := by have := HLn.out; have := HN.out; omega); clear hlt hi; go_wp2_with fail; refine (HH.out i HI.out wr).mono ?_; rintro _ w9 ⟨rfl, e9⟩
      replace e9 := e9.symm
      subst e9; by_cases hp : P i = true
      · rw [hp] at HSc ⊢
        obtain ⟨i0, hi0, hz0, hz1, hz2⟩ := infoI9; clear hp
        go_wp2_with (first
          | (at_builtin
             have hsz := HB.out.size; have hlm := HLn.out; have hnm := HN.out; have hil := HI.out; have hown := rowM_up HOw.out ((Below.refl _ wr).alloc (Nat.le_refl _) (.cells #[.int .i64 (i : Nat)] 3 (0, 0))); (refine wpList_append_lies _ rfl _ _ 58 rfl w.heap.size 3 i0 (.int .i64 0) 1 8 Try.underlying58 hi0 hz0 hz1 hz2 rfl (by decide) (.slice ad LL.length cp) LL.length (LL.map encI) rfl hown ⟨wr.heap.size, 0, none⟩ 1 1 [.int .i64 (i : Nat)] rfl rfl ?_ ?_ (by omega) (by unfold maxLen; omega) (by omega) (by simp; omega) _ rfl ?_)
             · intro j u hu
               rw [add_none, Nat.zero_add, blk_cell (blk_new wr _)]; simpa using hu
             · intro u hu
               simp at hu; subst hu; rfl
             intro g3 cp3 w3 hown3 hgrow hat hlt3; have hgrow' : (wr.alloc (.cells #[.int .i64 (i : Nat)] 3 (0, 0))).grownBy w3 (Value.slice ad LL.length cp).ownBlock := hgrow; have hlt' := HOw.out.lt; (have HB3 : Hid (Below w.heap.size w w3) := ((HB.out.alloc hsz _).grown hgrow' (by simp; omega) fun k hk => by have := (hlt' k hk).1; omega)); have HOw3 : Hid (w3.ownsRow w.heap.size 3 1 (.slice (some ⟨g3, 0, none⟩) (LL.length + 1) cp3) (LL.length + 1) (LL.map encI ++ [.int .i64 (i : Nat)])) := hown3
             clear hgrow hgrow' hat hown3 hown hlt' hsz hlt3 hi0 hz0 hz1 hz2 hlm hnm hil)
          | fail)
        (have HSc9 : memTo P (i + 1) = LL ++ [i] := by rw [HSc.out]; rfl); (have hl9 : (memTo P (i + 1)).length = LL.length + 1 := by rw [HSc9]; simp)
        go_roundg (N - (i + 1))
        case measure => have := HGk.out; have := HI.out; omega
        case rel =>
          (refine ⟨i + 1, some ⟨g3, 0, none⟩, cp3, HI.out, rfl, by go_num, by rw [hl9], ?_, HB3⟩); rw [hl9, HSc9, List.map_append]; exact HOw3
      · have hpf : P i = false := by simpa using hp
        rw [hpf] at HSc ⊢; clear hp hpf; go_wp2_with fail; (have HSc9 : memTo P (i + 1) = LL := by rw [HSc.out]; rfl)
        go_roundg (N - (i + 1))
        case measure => have := HGk.out; have := HI.out; omega
        case rel => exact ⟨i + 1, ad, cp, HI.out, rfl, by go_num, by rw [HSc9], by rw [HSc9]; exact HOw, HB⟩
    · have hii : N = i := by omega
      subst hii; (have hge : ¬ (N : Int) < (N : Int) := by omega); clear hlt hi; go_wp2_with fail; go_ret; obtain ⟨c1, c2⟩ := rowM_caps HOw.out; (refine ⟨_, rfl, ⟨ad, cp, rfl, c1, c2, fun hne => ?_⟩, HB.out⟩); obtain ⟨b, rfl, hc⟩ := rowM_cells HOw.out (List.length_pos_iff.2 hne); (refine ⟨b, rfl, fun j m hj => ?_⟩); (have := hc j (encI m) (by rw [List.getElem?_map, hj]; rfl))
      rwa [Nat.zero_add] at this
/-- What is asked of a world: it only makes memory. -/
structure AskN (N fn : Nat) (cap : Array Value) (q : Nat → Bool) (Ok : World → Prop) : Prop where
  up : ∀ {w w' : World}, Ok w → Below w.heap.size w w' → Ok w'
  ent : ∀ (v : Value) (w : World), (callFunc fn (#[v] ++ cap)).run Try.prog w = .ok (.enter fn (#[v] ++ cap)) w
  call : ∀ (u : Nat) (w : World), u < N → Ok w → Calls Try.prog fn (#[.int .i64 (u : Nat)] ++ cap) w fun e w' => e = .returned (.bool (q u)) ∧ Below w.heap.size w w'
set_option maxHeartbeats 2000000 in
theorem ofAll_any {N fn : Nat} (hN : N ≤ 40) {cap : Array Value} {q : Nat → Bool} {Ok : World → Prop} (A : AskN N fn cap q Ok) (g : Nat) (w : World) (hok : Ok w) :
    Calls Try.prog 79 #[.slice (some ⟨g, 0, none⟩) N N, .func (.func fn) #[] cap] w fun e w' => e = .returned (.bool ((List.range N).all q)) ∧ Below w.heap.size w w' := by
  (have hNI : (N : Int) ≤ 40 := by omega); have hcf := A.ent; (have HA : Hid (∀ (u : Nat) (w : World), u < N → Ok w → Calls Try.prog fn (#[.int .i64 (u : Nat)] ++ cap) w fun e w' => e = .returned (.bool (q u)) ∧ Below w.heap.size w w') := A.call); have HU : Hid (∀ {w w' : World}, Ok w → Below w.heap.size w w' → Ok w') := A.up; have HO : Hid (Ok w) := hok
  have HR : Hid (((List.range N).all q = true ↔ ∀ u, u < N → q u = true)) := by
    show _ ↔ _; rw [List.all_eq_true]; simp only [List.mem_range]
  generalize (List.range N).all q = res at *; clear hok A hN
  go_enter Try.func79, Try.ntmps79
  go_wp2_with fail
  go_loopg [8] N (fun gg c wr => ∃ i, i ≤ N ∧ gg = N - i ∧ c = .int .i64 (i : Nat) ∧ Hid (∀ u, u < i → q u = true) ∧ Hid (Below w.heap.size w wr))
  case atStart => exact ⟨0, by omega, by omega, rfl, fun u h => absurd h (Nat.not_lt_zero _), Below.refl _ _⟩
  case round =>
    obtain ⟨i, hi, hg, rfl, HQ, HB⟩ := hrel; have HGk : Hid (gk = N - i) := hg; clear hg; by_cases hlt : i < N
    · have hltI : (i : Int) < (N : Int) := by omega
      have HC : Hid (Calls Try.prog fn (#[.int .i64 (i : Nat)] ++ cap) wr _) := HA.out i wr hlt (HU.out HO.out HB.out); have HI : Hid (i < N) := hlt; obtain ⟨bb, hbb⟩ : ∃ bb, bb = q i := ⟨_, rfl⟩; rw [← hbb] at HC; have HBB : Hid (bb = q i) := hbb; clear hlt hi hbb; go_wp2_with fail; refine HC.out.mono ?_; rintro _ w1 ⟨rfl, hb1⟩; have HB1 : Hid (Below w.heap.size w w1) := below_join HB.out hb1; clear hb1
      cases bb
      · go_wp2_with fail
        go_ret; refine ⟨?_, HB1.out⟩
        have : res = false := by
          cases hr : res with
          | false => rfl
          | true =>
            have := HR.out.1 hr i HI.out; rw [← HBB.out] at this
            cases this
        rw [this]; rfl
      · go_wp2_with fail
        go_roundg (N - (i + 1))
        case measure => have := HGk.out; have := HI.out; omega
        case rel =>
          (refine ⟨i + 1, HI.out, rfl, by go_num, fun u hu => ?_, HB1⟩); by_cases e : u = i
          · rw [e, ← HBB.out]
          · exact HQ.out u (by omega)
    · have hii : i = N := by omega
      subst hii; (have hge : ¬ (i : Int) < (i : Int) := by omega); clear hlt hi; go_wp2_with fail; go_ret; refine ⟨?_, HB.out⟩; rw [HR.out.2 HQ.out]; rfl
/-- What is asked of a world and one that it sees. -/
structure AskP (N fn : Nat) (cap : Array Value) (q : Nat → Nat → Bool) (Ok : World → Prop) : Prop where
  up : ∀ {w w' : World}, Ok w → Below w.heap.size w w' → Ok w'
  ent : ∀ (v u : Value) (w : World), (callFunc fn (#[v, u] ++ cap)).run Try.prog w = .ok (.enter fn (#[v, u] ++ cap)) w
  call : ∀ (u v : Nat) (w : World), u < N → v < N → Ok w → Calls Try.prog fn (#[.int .i64 (u : Nat), .int .i64 (v : Nat)] ++ cap) w fun e w' => e = .returned (.bool (q u v)) ∧ Below w.heap.size w w'
/-- What the closure of ofAllSeen reads. -/
def OkS (N fn : Nat) (cap : Array Value) (R : Nat → Nat → Bool) (g fb cb : Nat) (Ok : World → Prop) (w : World) : Prop := w.heap[fb]? = some (.cells #[.slice (some ⟨g, 0, none⟩) N N] 72 (0, 0)) ∧ w.heap[cb]? = some (.cells #[.func (.func fn) #[] cap] 123 (0, 0)) ∧ FR w g N R ∧ Ok w
theorem rowS9 (l : List Value) (h0 : l.length = 9) : ∃ x0 x1 x2 x3 x4 x5 x6 x7 x8, l = [x0, x1, x2, x3, x4, x5, x6, x7, x8] := by
  obtain ⟨x0, l1, e0, h1⟩ := cons_lenM h0; obtain ⟨x1, l2, e1, h2⟩ := cons_lenM h1; obtain ⟨x2, l3, e2, h3⟩ := cons_lenM h2; obtain ⟨x3, l4, e3, h4⟩ := cons_lenM h3; obtain ⟨x4, l5, e4, h5⟩ := cons_lenM h4; obtain ⟨x5, l6, e5, h6⟩ := cons_lenM h5; obtain ⟨x6, l7, e6, h7⟩ := cons_lenM h6; obtain ⟨x7, l8, e7, h8⟩ := cons_lenM h7; obtain ⟨x8, l9, e8, h9⟩ := cons_lenM h8; have e9 : l9 = [] := List.length_eq_zero_iff.1 h9; subst e9 e8 e7 e6 e5 e4 e3 e2 e1 e0; exact ⟨x0, x1, x2, x3, x4, x5, x6, x7, x8, rfl⟩
set_option maxRecDepth 10000 in
set_option maxHeartbeats 4000000 in
theorem seen1_any {N fn : Nat} (hN : N ≤ 40) {cap : Array Value} {q : Nat → Nat → Bool} {Ok : World → Prop} (A : AskP N fn cap q Ok) (R : Nat → Nat → Bool) (g fb cb u : Nat) (hu : u < N) (w : World) (hok : OkS N fn cap R g fb cb Ok w) :
    Calls Try.prog 101 (#[.int .i64 (u : Nat)] ++ #[.pointer (some ⟨fb, 0, none⟩), .pointer (some ⟨cb, 0, none⟩)]) w fun e w' => e = .returned (.bool ((seeR N R u).all (q u))) ∧ Below w.heap.size w w' := by
  obtain ⟨h1, h2, h3, h4⟩ := hok; (have hNI : (N : Int) ≤ 40 := by omega); (have huI : (u : Int) < (N : Int) := by omega); have hcf := A.ent; (have HA : Hid (∀ (u v : Nat) (w : World), u < N → v < N → Ok w → Calls Try.prog fn (#[.int .i64 (u : Nat), .int .i64 (v : Nat)] ++ cap) w fun e w' => e = .returned (.bool (q u v)) ∧ Below w.heap.size w w') := A.call); have HUp : Hid (∀ {w w' : World}, Ok w → Below w.heap.size w w' → Ok w') := A.up; have HO : Hid (Ok w) := h4; have HU0 : Hid (u < N) := hu; have HX0 : Hid (w.heap[fb]? = some (.cells #[.slice (some ⟨g, 0, none⟩) N N] 72 (0, 0))) := h1; have HX1 : Hid (w.heap[cb]? = some (.cells #[.func (.func fn) #[] cap] 123 (0, 0))) := h2; obtain ⟨s, hs⟩ : ∃ s, s = bm N (R u) := ⟨_, rfl⟩; (have HC0 : Hid (w.cell? ⟨g, u, none⟩ = some (.int .u64 (s : Nat))) := by rw [hs]; exact h3 u hu); obtain ⟨LL, hLL⟩ : ∃ LL, LL = seeR N R u := ⟨_, rfl⟩
  have HMb : Hid (∀ w, Calls Try.prog 102 #[.int .u64 (s : Nat), .int .i64 (N : Nat)] w fun e w' => ∃ x, e = .returned x ∧ NL w' x LL ∧ Below w.heap.size w w') := fun w => by
    rw [hs, hLL]; exact set_members hN (R u) w
  (have HLt : Hid (∀ v ∈ LL, v < N) := fun v hv => by rw [hLL] at hv; exact (mem_seeR.1 hv).1)
  have HR : Hid ((seeR N R u).all (q u) = true ↔ ∀ (j v : Nat), LL[j]? = some v → q u v = true) := by
    show _ ↔ _; rw [List.all_eq_true, hLL]; (exact ⟨fun h j v hj => h v (List.mem_of_getElem? hj), fun h v hv => by obtain ⟨j, hj⟩ := List.getElem?_of_mem hv; exact h j v hj⟩)
  (have hln : LL.length ≤ 40 := by rw [hLL]; exact Nat.le_trans (memTo_len (R u) N) hN); (have hlnI : (LL.length : Int) ≤ 40 := by omega); generalize (seeR N R u).all (q u) = res at *; clear h1 h2 h3 h4 hu hs hLL hln A hN; show Calls Try.prog 101 #[.int .i64 (u : Nat), .pointer (some ⟨fb, 0, none⟩), .pointer (some ⟨cb, 0, none⟩)] w _
  go_enter Try.func101, Try.ntmps101
  go_wp2_with fail; (refine wp_region_free (by kernel_rfl) [fun v _ => v = (.slice (some ⟨g, 0, none⟩) N N), fun v _ => v = (.int .i64 (u : Nat)), fun v _ => v = (.pointer (some ⟨g, u, none⟩)), fun v _ => v = (.int .u64 (s : Nat)), fun v _ => v = (.slice (some ⟨g, 0, none⟩) N N), fun v _ => v = (.int .i64 (N : Nat)), fun v w => NL w v LL, fun v _ => v = (.int .i64 (LL.length : Nat)), fun v _ => v = (.int .i64 0)] ?_ (by kernel_rfl) (by kernel_rfl) 25 rfl (by kernel_rfl) ?_ ?_)
  · intro p hp
    simp only [List.mem_cons, List.not_mem_nil, or_false] at hp
    rcases hp with rfl | rfl | rfl | rfl | rfl | rfl | rfl | rfl | rfl
    · exact fun _ _ _ h _ => h
    · exact fun _ _ _ h _ => h
    · exact fun _ _ _ h _ => h
    · exact fun _ _ _ h _ => h
    · exact fun _ _ _ h _ => h
    · exact fun _ _ _ h _ => h
    · exact fun _ _ _ h hb => NL.up h hb
    · exact fun _ _ _ h _ => h
    · exact fun _ _ _ h _ => h
  · refine ⟨?_, ?_, ?_, ?_, ?_, ?_, ?_, ?_, ?_, trivial⟩
    · intro a wx hB hold hdep K hK
      have t1 : a.tmps[1]? = some (.pointer (some ⟨fb, 0, none⟩)) := hold.2.2 1 rfl; obtain ⟨k0, -⟩ := blk1 (below_keep hB HX0.out); clear hold hdep; go_simp; exact hK.out _ _ rfl (Below.refl _ _)
    · intro a wx hB hold hdep K hK
      have t0 : a.tmps[0]? = some (.int .i64 (u : Nat)) := hold.2.2 0 rfl; clear hold hdep; go_simp; exact hK.out _ _ rfl (Below.refl _ _)
    · intro a wx hB hold hdep K hK
      obtain ⟨v7, t7, p7⟩ := hdep 0 rfl _ 7 rfl rfl; have e7 : v7 = (.slice (some ⟨g, 0, none⟩) N N) := p7; subst e7; obtain ⟨v8, t8, p8⟩ := hdep 1 rfl _ 8 rfl rfl; have e8 : v8 = (.int .i64 (u : Nat)) := p8; subst e8; clear hold hdep; go_simp; exact hK.out _ _ rfl (Below.refl _ _)
    · intro a wx hB hold hdep K hK
      obtain ⟨v9, t9, p9⟩ := hdep 2 rfl _ 9 rfl rfl; have e9 : v9 = (.pointer (some ⟨g, u, none⟩)) := p9; subst e9; have c9 := (hB.cell (lt_of_cell HC0.out)).trans HC0.out; clear hold hdep; go_simp; exact hK.out _ _ rfl (Below.refl _ _)
    · intro a wx hB hold hdep K hK
      have t1 : a.tmps[1]? = some (.pointer (some ⟨fb, 0, none⟩)) := hold.2.2 1 rfl; obtain ⟨k0, -⟩ := blk1 (below_keep hB HX0.out); clear hold hdep; go_simp; exact hK.out _ _ rfl (Below.refl _ _)
    · intro a wx hB hold hdep K hK
      obtain ⟨v11, t11, p11⟩ := hdep 4 rfl _ 11 rfl rfl; have e11 : v11 = (.slice (some ⟨g, 0, none⟩) N N) := p11; subst e11; clear hold hdep; go_simp; exact hK.out _ _ rfl (Below.refl _ _)
    · intro a wx hB hold hdep K hK
      obtain ⟨v10, t10, p10⟩ := hdep 3 rfl _ 10 rfl rfl; have e10 : v10 = (.int .u64 (s : Nat)) := p10; subst e10; obtain ⟨v12, t12, p12⟩ := hdep 5 rfl _ 12 rfl rfl; have e12 : v12 = (.int .i64 (N : Nat)) := p12; subst e12; have HW : Hid (Calls Try.prog 102 #[.int .u64 (s : Nat), .int .i64 (N : Nat)] wx _) := HMb.out wx; clear hold hdep; go_simp; refine HW.out.mono ?_; rintro _ w9 ⟨x9, rfl, hn9, hb9⟩; have H9 : Hid (NL w9 x9 LL) := hn9; clear hn9; go_simp; exact hK.out _ _ H9.out hb9
    · intro a wx hB hold hdep K hK
      obtain ⟨v13, t13, p13⟩ := hdep 6 rfl _ 13 rfl rfl; (have P13 : Hid ((fun v w => NL w v LL) v13 wx) := p13); clear p13; obtain ⟨ad9, cp9, rfl, -⟩ := P13.out; clear hold hdep; go_simp; exact hK.out _ _ rfl (Below.refl _ _)
    · intro a wx hB hold hdep K hK
      clear hold hdep; go_simp; exact hK.out _ _ rfl (Below.refl _ _)
  · intro a wx hB hold hgot
    obtain ⟨vN, tvN, pvN⟩ := hgot 6 _ 13 rfl rfl; obtain ⟨vA, tvA, pvA⟩ := hgot 7 _ 14 rfl rfl; have evA : vA = (.int .i64 (LL.length : Nat)) := pvA; subst evA; obtain ⟨vB, tvB, pvB⟩ := hgot 8 _ 15 rfl rfl; have evB : vB = (.int .i64 0) := pvB; subst evB; have HBx : Hid (Below w.heap.size w wx) := hB; obtain ⟨ad, cp, rfl, n1, n2, n3⟩ := pvN; have HN3 : Hid (LL ≠ [] → ∃ b, ad = some ⟨b, 0, none⟩ ∧ ∀ (j n : Nat), LL[j]? = some n → wx.cell? ⟨b, j, none⟩ = some (.int .i64 (n : Nat))) := n3; (have hcI : (LL.length : Int) ≤ (cp : Int) := by omega); obtain ⟨tm, df⟩ := a; (obtain ⟨ys, hys, htm, rfl⟩ := frame_mid2 7 9 (by kernel_rfl) (Nat.le_of_ble_eq_true rfl) hold); obtain ⟨x7, x8, x9, x10, x11, x12, x13, x14, x15, rfl⟩ := rowS9 ys hys; simp only [List.take_succ_cons, List.take_zero, List.drop_succ_cons, List.drop_zero, List.cons_append, List.nil_append] at htm; subst htm; obtain rfl : x13 = _ := someInjM tvN; obtain rfl : x14 = _ := someInjM tvA; obtain rfl : x15 = _ := someInjM tvB; clear hys hold hgot tvN tvA pvA tvB pvB hB n1 n2 n3; go_wp2_with fail; show Code.wp _ _ _ ⟨#[_, _, _, _, _, _, _, _, _, _, _, _, _, _, _, _, _, _, _, _, _, _, _, _, _], _⟩ _
    go_loopg [15] LL.length (fun gg c wr => ∃ i, i ≤ LL.length ∧ gg = LL.length - i ∧ c = .int .i64 (i : Nat) ∧ Hid (∀ (j v : Nat), j < i → LL[j]? = some v → q u v = true) ∧ Hid (Below wx.heap.size wx wr))
    case atStart => exact ⟨0, by omega, by omega, rfl, fun j v h => absurd h (Nat.not_lt_zero _), Below.refl _ _⟩
    case round =>
      obtain ⟨i, hi, hg, rfl, HQ, HB⟩ := hrel; have HGk : Hid (gk = LL.length - i) := hg; clear hg; by_cases hlt : i < LL.length
      · obtain ⟨v, hr⟩ : ∃ r, LL[i]? = some r := ⟨_, List.getElem?_eq_getElem hlt⟩
        (obtain ⟨b, rfl, hc⟩ := HN3.out (fun e => by rw [e] at hlt; simp at hlt)); have g0 := (HB.out.cell (lt_of_cell (hc i v hr))).trans (hc i v hr); have HBw : Hid (Below w.heap.size w wr) := below_join HBx.out HB.out; have g1 := (blk1 (below_keep HBw.out HX1.out)).1; (have hltI : (i : Int) < (LL.length : Int) := by omega); (have hltc : (i : Int) < (cp : Int) := by omega); have hvN := HLt.out v (List.mem_of_getElem? hr); have HC : Hid (Calls Try.prog fn (#[.int .i64 (u : Nat), .int .i64 (v : Nat)] ++ cap) wr _) := HA.out u v wr HU0.out hvN (HUp.out HO.out HBw.out); have HI : Hid (i < LL.length) := hlt; have HRi : Hid (LL[i]? = some v) := hr; obtain ⟨bb, hbb⟩ : ∃ bb, bb = q u v := ⟨_, rfl⟩; rw [← hbb] at HC; have HBB : Hid (bb = q u v) := hbb; clear hlt hi hbb hc hr hvN; go_wp2_with fail; refine HC.out.mono ?_; rintro _ w1 ⟨rfl, hb1⟩; have HB1 : Hid (Below wx.heap.size wx w1) := below_join HB.out hb1; clear hb1 g0 g1
        cases bb
        · go_wp2_with fail
          go_ret; refine ⟨?_, below_join HBx.out HB1.out⟩
          have : res = false := by
            cases hr : res with
            | false => rfl
            | true =>
              have := HR.out.1 hr i v HRi.out; rw [← HBB.out] at this
              cases this
          rw [this]; rfl
        · go_wp2_with fail
          go_roundg (LL.length - (i + 1))
          case measure => have := HGk.out; have := HI.out; omega
          case rel =>
            (refine ⟨i + 1, HI.out, rfl, by go_num, fun j x hj hx => ?_, HB1⟩); by_cases e : j = i
            · rw [e, HRi.out] at hx
              cases hx
              exact HBB.out.symm
            · exact HQ.out j x (by omega) hx
      · have hii : i = LL.length := by omega
        subst hii; (have hge : ¬ (LL.length : Int) < (LL.length : Int) := by omega); clear hlt hi; go_wp2_with fail; go_ret; refine ⟨?_, below_join HBx.out HB.out⟩
        rw [HR.out.2 fun j v hj => HQ.out j v (by
          rcases Nat.lt_or_ge j LL.length with h | h
          · exact h
          · rw [List.getElem?_eq_none h] at hj; cases hj) hj]
        rfl
theorem seen1_in (cap : Array Value) (w : World) : (callFunc 101 cap).run Try.prog w = .ok (.enter 101 cap) w := by
  simp [go_sem]
theorem askSeen {N fn : Nat} (hN : N ≤ 40) {cap : Array Value} {q : Nat → Nat → Bool} {Ok : World → Prop} (A : AskP N fn cap q Ok) (R : Nat → Nat → Bool) (g fb cb : Nat) : AskN N 101 #[.pointer (some ⟨fb, 0, none⟩), .pointer (some ⟨cb, 0, none⟩)] (fun u => (seeR N R u).all (q u)) (OkS N fn cap R g fb cb Ok) where
  up := fun ⟨h1, h2, h3, h4⟩ hb => ⟨below_keep hb h1, below_keep hb h2, h3.up hb, A.up h4 hb⟩
  ent := fun _ w => seen1_in _ w
  call := fun u w hu hok => seen1_any hN A R g fb cb u hu w hok
set_option maxHeartbeats 2000000 in
theorem ofSeen_any {N fn : Nat} (hN : N ≤ 40) {cap : Array Value} {q : Nat → Nat → Bool} {Ok : World → Prop} (A : AskP N fn cap q Ok) (R : Nat → Nat → Bool) (g : Nat) (w : World) (hF : FR w g N R) (hok : Ok w) :
    Calls Try.prog 80 #[.slice (some ⟨g, 0, none⟩) N N, .func (.func fn) #[] cap] w fun e w' => e = .returned (.bool ((List.range N).all fun u => (seeR N R u).all (q u))) ∧ Below w.heap.size w w' := by
  obtain ⟨W, hW⟩ : ∃ W, W = (w.alloc (.cells #[.slice (some ⟨g, 0, none⟩) N N] 72 (0, 0))).alloc (.cells #[.func (.func fn) #[] cap] 123 (0, 0)) := ⟨_, rfl⟩; (have HBW : Hid (Below w.heap.size w W) := by rw [hW]; exact below_more (below_more (Below.refl _ w) _) _); (have h0 : W.heap[w.heap.size]? = some (.cells #[.slice (some ⟨g, 0, none⟩) N N] 72 (0, 0)) := by rw [hW]; exact alloc_keep (blk_new _ _) _); (have h1 : W.heap[w.heap.size + 1]? = some (.cells #[.func (.func fn) #[] cap] 123 (0, 0)) := by rw [hW]; exact blk_secE _ _ _); have HC : Hid (Calls Try.prog 79 #[.slice (some ⟨g, 0, none⟩) N N, .func (.func 101) #[] #[.pointer (some ⟨w.heap.size, 0, none⟩), .pointer (some ⟨w.heap.size + 1, 0, none⟩)]] W _) := ofAll_any hN (askSeen hN A R g w.heap.size (w.heap.size + 1)) g W ⟨h0, h1, hF.up HBW.out, A.up hok HBW.out⟩; (have hmf : ∀ (fn : Fn) (first cap : Array Value) (w : World), (Instr.makeFunc fn first cap).run Try.prog w = .ok (.func fn first cap) w := fun _ _ _ _ => rfl); (generalize ((List.range N).all fun u => (seeR N R u).all (q u)) = res at *); clear h0 h1 hF hok A
  go_enter Try.func80, Try.ntmps80
  go_wp2_with fail; rw [← hW]; refine HC.out.mono ?_; rintro _ w1 ⟨rfl, hb1⟩; have HB1 : Hid (Below w.heap.size w w1) := below_join HBW.out hb1; clear hb1 hW; go_wp2_with fail; go_ret; exact ⟨rfl, HB1.out⟩
end Go.Proofs.Ytmahgfgndfcmpag
