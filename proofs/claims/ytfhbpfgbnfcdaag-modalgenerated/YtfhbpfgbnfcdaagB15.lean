/- Texts of one proof, one behind the other: ME7, ME8. -/
import Derived.Test.YtfhbpfgbnfcdaagB14
import Derived.Test.YtfhbpfgbnfcdaagB12
import Derived.Test.YtfhbpfgbnfcdaagB04
/- Walks: what is wrong with a model or a formula first. -/
namespace Go.Proofs.Ytfhbpfgbnfcdaag
open Go.RowKit

/-- What is wrong with a model, or else with a formula. -/
def mfcode (m : Mdl) (f : Fm) : Int × Int := if (mdcode 40 2000 m).1 = 0 then f.code else mdcode 40 2000 m
set_option maxHeartbeats 2000000 in
theorem firstFault_any (m : Mdl) (f : Fm) (v u : Value) (w : World) (hv : MR w m v) (hu : Rep w (fun _ => True) f u) :
    Calls Try.prog 27 #[v, u] w fun e w' => e = .returned (.agg #[.int .i64 (mfcode m f).1, .int .i64 (mfcode m f).2]) ∧ Below w.heap.size w w' := by
  (have HK : Hid (∀ w, MR w m v → Calls Try.prog 35 #[v] w _) := fun w h => kCheck_any m v w h); (have HC : Hid (∀ w, Rep w (fun _ => True) f u → Calls Try.prog 44 #[u] w _) := fun w h => check_any f u w h); (have HE : Hid (((mdcode 40 2000 m).1 = 0 → mfcode m f = f.code) ∧ ((mdcode 40 2000 m).1 ≠ 0 → mfcode m f = mdcode 40 2000 m)) := ⟨fun h => if_pos h, fun h => if_neg h⟩); have HV : Hid (MR w m v) := hv; (have HU : Hid (Rep w (fun _ => True) f u) := hu); obtain ⟨ra, rc, ta, tc, rfl, -⟩ := hv; obtain ⟨k, n, ks⟩ := f; obtain ⟨sl, cp, rfl⟩ := slice_shape hu; generalize mdcode 40 2000 m = md at *; generalize (Fm.mk k n ks).code = fd at *; generalize mfcode m (.mk k n ks) = r at *; obtain ⟨c, a⟩ := md; obtain ⟨fc, fa⟩ := fd; obtain ⟨W, hW⟩ : ∃ W, W = ((w.alloc (.cells #[.int .i64 m.n, .slice ra m.rel.length rc, .slice ta m.tr.length tc] 25 (0, 0))).alloc (.cells #[.int .i64 k, .string n, .slice sl ks.length cp] 28 (0, 0))).alloc (.cells #[.int .i64 0, .int .i64 0] 34 (0, 0)) := ⟨_, rfl⟩; (have HB0 : Hid (Below w.heap.size w W) := by rw [hW]; exact below_more (below_more (below_more (Below.refl _ w) _) _) _); obtain ⟨b1, b2, b3⟩ := blk_threeM w (.cells #[.int .i64 m.n, .slice ra m.rel.length rc, .slice ta m.tr.length tc] 25 (0, 0)) (.cells #[.int .i64 k, .string n, .slice sl ks.length cp] 28 (0, 0)) (.cells #[.int .i64 0, .int .i64 0] 34 (0, 0)); rw [← hW] at b1 b2 b3; have HQ2 : Hid (W.heap[w.heap.size + 2]? = some (.cells #[.int .i64 0, .int .i64 0] 34 (0, 0))) := b3; have HQ1 : Hid (W.heap[w.heap.size + 1]? = some (.cells #[.int .i64 k, .string n, .slice sl ks.length cp] 28 (0, 0))) := b2; clear b1 b2 b3 hu
  go_enter Try.func27, Try.ntmps27
  go_wp2_with fail; rw [← hW]; refine (HK.out _ (HV.out.up HB0.out)).mono ?_; rintro _ w1 ⟨rfl, hb1⟩; have HB1 : Hid (Below w.heap.size w w1) := below_join HB0.out hb1; have HR1 : Hid (w1.heap[w.heap.size + 2]? = some (.cells #[.int .i64 0, .int .i64 0] 34 (0, 0))) := below_keep hb1 HQ2.out; have HF1 : Hid (w1.heap[w.heap.size + 1]? = some (.cells #[.int .i64 k, .string n, .slice sl ks.length cp] 28 (0, 0))) := below_keep hb1 HQ1.out; clear hb1 hW; obtain ⟨X, hX⟩ : ∃ X, w1.alloc (.cells #[.int .i64 c, .int .i64 a] 34 (0, 0)) = X := ⟨_, rfl⟩; (have HXr : Hid (X.heap[w.heap.size + 1 + 1]? = some (.cells #[.int .i64 0, .int .i64 0] 34 (0, 0))) := by rw [← hX]; exact alloc_keep HR1.out _); obtain ⟨q20, q21, q22, q23⟩ := blk2 HXr.out; (obtain ⟨q10, q11, q12, -⟩ := blk3 (show X.heap[w.heap.size + 1]? = some _ by rw [← hX]; exact alloc_keep HF1.out _)); (obtain ⟨q30, q31, -⟩ := blk2 (show X.heap[w1.heap.size]? = some _ by rw [← hX]; exact blk_new _ _)); (have HBX : Hid (Below w.heap.size w X) := by rw [← hX]; exact below_more HB1.out _); by_cases h0 : c = 0
  · subst h0
    have HR := HE.out.1 rfl; subst HR; go_wp2_with fail; refine (HC.out _ (HU.out.up HBX.out)).mono ?_; rintro _ w2 ⟨rfl, hb2⟩; have HY : Hid (w2.heap[w.heap.size + 1 + 1]? = some (.cells #[.int .i64 0, .int .i64 0] 34 (0, 0))) := below_keep hb2 HXr.out; have HB2 : Hid (Below w.heap.size w w2) := below_join HBX.out hb2; clear hb2 q20 q21 q22 q23 q10 q11 q12 q30 q31 hX; obtain ⟨q20, q21, q22, q23⟩ := blk2 HY.out; go_wp2_with fail; have f2 := set2 HY.out (.int .i64 fc) (.int .i64 fa); (have b2 := (HB2.out.setCell (p := ⟨w.heap.size + 1 + 1, 0, none⟩) (by simp; omega) (.int .i64 fc)).setCell (p := ⟨w.heap.size + 1 + 1, 1, none⟩) (by simp; omega) (.int .i64 fa)); generalize World.setCell _ _ _ = F at f2 b2 ⊢; clear q20 q21 q22 q23; obtain ⟨o1, o2, -⟩ := blk2 f2; (exact bodyPost_ret (v := .agg #[.int .i64 fc, .int .i64 fa]) (by simp [results, Try.results27, go_sem, o1, o2]) rfl ⟨rfl, b2⟩)
  · have HR := HE.out.2 h0
    subst HR; go_wp2_with fail; have f2 := set2 HXr.out (.int .i64 c) (.int .i64 a); (have b2 := (HBX.out.setCell (p := ⟨w.heap.size + 1 + 1, 0, none⟩) (by simp; omega) (.int .i64 c)).setCell (p := ⟨w.heap.size + 1 + 1, 1, none⟩) (by simp; omega) (.int .i64 a)); generalize World.setCell _ _ _ = F at f2 b2 ⊢; clear q20 q21 q22 q23; obtain ⟨o1, o2, -⟩ := blk2 f2; (exact bodyPost_ret (v := .agg #[.int .i64 c, .int .i64 a]) (by simp [results, Try.results27, go_sem, o1, o2]) rfl ⟨rfl, b2⟩)
end Go.Proofs.Ytfhbpfgbnfcdaag
/- Walks: modal.Eval. -/
namespace Go.Proofs.Ytfhbpfgbnfcdaag
open Go.RowKit Go.Maps Go.WideMaps

theorem step_mapE {H : Type} {P : Program} (w : World) {ops : Array Oper} {o : Oper} {a : Act} {K : Act → World → Prop} {Q : Exit → Act → World → Prop} {E : Prop} (hgd : o.guard = none) (m x v : Operand) (t : TypeId) (hop : o.op = Op.mapUpdate t m x v)
    (k e : TypeId) (KK : Keyed P k) (ht : P.underlying t = some (.map k e)) (R : Value → Option (DataW H × List MemPlace)) (b n : Nat) (D : DataW H)
    (hm : a.eval m = .map (some b)) (hown : w.ownsMap P k R b n D) (hn : n < maxLen) (key val : Value) (kl : Lit) (hx : a.eval x = key) (hv : a.eval v = val) (hkey : keyOf P k key = some kl)
    (d : DataW H) (ps : List MemPlace) (hval : R val = some (d, ps))
    (h : ∀ w', w'.ownsMap P k R b (n + 1) (D.put kl d) → w.grownBy w' (some b) → K (a.put o.dst undef) w') :
    if Region.wanted o (yielded ops a.tmps) = true then Oper.wp P o a w K Q else E := by
  (have hw : Region.wanted o (yielded ops a.tmps) = true := by simp [Region.wanted, hgd]); rw [if_pos hw]; obtain ⟨w', hrun, r1, r2⟩ := hown.update KK ht hn hkey hval; unfold Oper.wp; simp [execOp, hop, hm, hx, hv, hrun, Result.andThen]; exact h w' r1 r2
theorem wf_set {s : Nat} (h : s < 1099511627776) : (Lit.int .u64 (s : Int)).wf = true := by
  simp [Lit.wf, IntKind.min, IntKind.max, IntKind.signed, IntKind.bits]; omega
/-- The names of a world, by its number. -/
def pT (tr : List (List (List UInt8))) (u : Nat) (s : List UInt8) : Bool := (tr.getD u []).contains s
def ppO (tr : List (List (List UInt8))) (i u : Nat) (s : List UInt8) : Bool := decide (u < i) && pT tr u s
def ppI (tr : List (List (List UInt8))) (i k u : Nat) (s : List UInt8) : Bool := (decide (u < i) && pT tr u s) || (u == i && ((tr.getD i []).take k).contains s)
theorem ppI_zero (tr : List (List (List UInt8))) (i u : Nat) (s : List UInt8) : ppO tr i u s = ppI tr i 0 u s := by simp [ppO, ppI]
theorem ppI_full (tr : List (List (List UInt8))) (i u : Nat) (s : List UInt8) : ppI tr i (tr.getD i []).length u s = ppO tr (i + 1) u s := by
  unfold ppI ppO; rw [List.take_length]; by_cases e : u = i
  · subst e; simp [pT]
  · have : decide (u < i + 1) = decide (u < i) := by rw [decide_eq_decide]; omega
    rw [this]; simp [e]
theorem ppI_succ {tr : List (List (List UInt8))} {i k u : Nat} {s t : List UInt8} (h : (tr.getD i [])[k]? = some t) : (ppI tr i k u s || (u == i && s == t)) = ppI tr i (k + 1) u s := by
  unfold ppI; rw [List.take_add_one, h, Bool.or_assoc]
  congr 1
  by_cases e : u = i
  · subst e
    rw [Bool.eq_iff_iff]
    simp
  · have : (u == i) = false := by simpa using e
    rw [this]
    simp
theorem ppO_all {tr : List (List (List UInt8))} {u : Nat} {s : List UInt8} (h : u < tr.length) : ppO tr tr.length u s = pT tr u s := by simp [ppO, h]
/-- The names of a model that is fine. -/
theorem wfirst_zero : ∀ (ls : List (List (List UInt8))) (i : Nat), (wfirst ls i).1 = 0 → ∀ l ∈ ls, wcode l = 0
  | [], _, _, l, h => by cases h
  | l :: ls, i, h, l', hl => by
    rw [wfirst] at h
    split at h
    · rename_i h0
      rcases List.mem_cons.1 hl with rfl | h2
      · exact h0
      · exact wfirst_zero ls (i + 1) h l' h2
    · rename_i h0
      exact absurd h h0
theorem mdcode_names {W P : Int} {m : Mdl} (h : (mdcode W P m).1 = 0) : ∀ l ∈ m.tr, l.length ≤ 30 ∧ ∀ t ∈ l, isNm t = true := by
  intro l hl
  have h2 : wcode l = 0 := by
    unfold mdcode at h
    split at h
    · cases h
    split at h
    · cases h
    split at h
    · cases h
    exact wfirst_zero _ _ h l hl
  unfold wcode at h2
  split at h2
  · cases h2
  rename_i h3
  split at h2
  · cases h2
  rename_i h4
  (refine ⟨by omega, fun t ht => ?_⟩); (have := List.any_eq_false.1 (by simpa using h4 : (l.any fun t => !isNm t) = false) t ht); simpa using this
/-- Of each world whether a formula is true there. -/
def evL (m : Mdl) (f : Fm) : List Bool := (List.range m.n.toNat).map (mtv (seeR m.n.toNat (relB m.rel)) (pT m.tr) f)
/-- A list of bools stays where two numbers are written. -/
theorem BL.off {w : World} {v : Value} {l : List Bool} {b : Nat} {x0 x1 : Int} {T : TypeId} (h : BL w v l) (hz : w.heap[b]? = some (.cells #[.int .i64 x0, .int .i64 x1] T (0, 0))) (o : Nat) (y : Int) : BL (w.setCell ⟨b, o, none⟩ (.int .i64 y)) v l := by
  obtain ⟨ad, cap, rfl, h1, h2, h3⟩ := h; (refine ⟨ad, cap, rfl, h1, h2, fun hne => ?_⟩); obtain ⟨g, off, rfl, hc⟩ := h3 hne; (refine ⟨g, off, rfl, fun j x hj => ?_⟩); have c := hc j x hj
  have hne2 : g ≠ b := fun e => by
    subst e; rw [blk_cell hz] at c; generalize off + j = q at c
    match q, c with
    | 0, c => simp at c
    | 1, c => simp at c
    | q + 2, c => simp at c
  (rw [cell_of_block (Below.heap_setCell _ _ _ _ (by simpa using hne2))]); exact c
theorem nm8 {t : List UInt8} (h : isNm t = true) : t.length ≤ 8 := by
  unfold isNm at h; simp at h; exact h.1.2
theorem rowE1 (l : List Value) (h0 : l.length = 1) : ∃ x0, l = [x0] := by
  obtain ⟨x0, l1, e0, h1⟩ := cons_lenM h0; have e1 : l1 = [] := List.length_eq_zero_iff.1 h1; subst e1 e0; exact ⟨x0, rfl⟩
theorem rowE5 (l : List Value) (h0 : l.length = 5) : ∃ x0 x1 x2 x3 x4, l = [x0, x1, x2, x3, x4] := by
  obtain ⟨x0, l1, e0, h1⟩ := cons_lenM h0; obtain ⟨x1, l2, e1, h2⟩ := cons_lenM h1; obtain ⟨x2, l3, e2, h3⟩ := cons_lenM h2; obtain ⟨x3, l4, e3, h4⟩ := cons_lenM h3; obtain ⟨x4, l5, e4, h5⟩ := cons_lenM h4; have e5 : l5 = [] := List.length_eq_zero_iff.1 h5; subst e5 e4 e3 e2 e1 e0; exact ⟨x0, x1, x2, x3, x4, rfl⟩
theorem rowE8 (l : List Value) (h0 : l.length = 8) : ∃ x0 x1 x2 x3 x4 x5 x6 x7, l = [x0, x1, x2, x3, x4, x5, x6, x7] := by
  obtain ⟨x0, l1, e0, h1⟩ := cons_lenM h0; obtain ⟨x1, l2, e1, h2⟩ := cons_lenM h1; obtain ⟨x2, l3, e2, h3⟩ := cons_lenM h2; obtain ⟨x3, l4, e3, h4⟩ := cons_lenM h3; obtain ⟨x4, l5, e4, h5⟩ := cons_lenM h4; obtain ⟨x5, l6, e5, h6⟩ := cons_lenM h5; obtain ⟨x6, l7, e6, h7⟩ := cons_lenM h6; obtain ⟨x7, l8, e7, h8⟩ := cons_lenM h7; have e8 : l8 = [] := List.length_eq_zero_iff.1 h8; subst e8 e7 e6 e5 e4 e3 e2 e1 e0; exact ⟨x0, x1, x2, x3, x4, x5, x6, x7, rfl⟩
set_option maxRecDepth 10000 in
set_option maxHeartbeats 8000000 in
theorem eval_ok (N : Nat) (hN : N ≤ 40) (rel : List (Int × Int)) (hrl : rel.length ≤ 2000) (hin : InR N rel) (tr : List (List (List UInt8))) (htr : tr.length = N) (hnm : ∀ l ∈ tr, l.length ≤ 30 ∧ ∀ t ∈ l, isNm t = true) (f : Fm) (hf : Fine f) (h0 : mfcode ⟨(N : Int), rel, tr⟩ f = (0, 0)) (v u : Value) (w : World) (hv : MR w ⟨(N : Int), rel, tr⟩ v) (hu : Rep w (fun _ => True) f u) :
    Calls Try.prog 10 #[v, u] w fun e w' => ∃ x, e = .returned (.tuple #[x, .agg #[.int .i64 0, .int .i64 0]]) ∧ BL w' x ((List.range N).map (mtv (seeR N (relB rel)) (pT tr) f)) ∧ Below w.heap.size w w' := by
  obtain ⟨ec, hec⟩ : ∃ ec : Int, (0 : Int) = ec := ⟨_, rfl⟩; obtain ⟨ea, hea⟩ : ∃ ea : Int, ((0 : Int), (0 : Int)).2 = ea := ⟨_, rfl⟩
  have HFF : Hid (∀ w, MR w ⟨(N : Int), rel, tr⟩ v → Rep w (fun _ => True) f u → Calls Try.prog 27 #[v, u] w fun e w' => e = .returned (.agg #[.int .i64 ec, .int .i64 ea]) ∧ Below w.heap.size w w') := fun w h1 h2 => by
    have := firstFault_any ⟨(N : Int), rel, tr⟩ f v u w h1 h2; rw [h0] at this; rw [← hec, ← hea]; exact this
  (have hcn : (ec != 0) = false := by rw [← hec]; rfl); have HV : Hid (MR w ⟨(N : Int), rel, tr⟩ v) := hv; (have HRep : Hid (Rep w (fun _ => True) f u) := hu); have HN : Hid (N ≤ 40) := hN; have HRl : Hid (rel.length ≤ 2000) := hrl; have HIn : Hid (InR N rel) := hin; have HTr : Hid (tr.length = N) := htr; have HNm : Hid (∀ l ∈ tr, l.length ≤ 30 ∧ ∀ t ∈ l, isNm t = true) := hnm; have HFi : Hid (Fine f) := hf; obtain ⟨ra, rc, ta, tc, rfl, hpl, hsl, -⟩ := hv; simp only at hpl hsl HFF HV ⊢; have HPl : Hid (PL w (.slice ra rel.length rc) rel) := hpl; obtain ⟨ta', tc', e2, s1, s2, s3⟩ := hsl; simp only [Value.slice.injEq, true_and] at e2; obtain ⟨rfl, rfl⟩ := e2; have HS3 : Hid (tr ≠ [] → ∃ b off, ta = some ⟨b, off, none⟩ ∧ ∀ (j : Nat) (r : List (List UInt8)), tr[j]? = some r → ∃ u, w.cell? ⟨b, off + j, none⟩ = some u ∧ SL w u r) := s3; obtain ⟨k, n, ks⟩ := f; obtain ⟨sl, cp, rfl⟩ := slice_shape hu; (have htI : (tr.length : Int) ≤ 40 := by omega); (have htc : (tr.length : Int) ≤ (tc : Int) := by omega); (have hNI : (N : Int) ≤ 40 := by omega); obtain ⟨z, hz⟩ : ∃ z, z = bm N (mtv (seeR N (relB rel)) (pT tr) (.mk k n ks)) := ⟨_, rfl⟩; have HZ : Hid (z = bm N (mtv (seeR N (relB rel)) (pT tr) (.mk k n ks))) := hz; obtain ⟨BLs, hBs⟩ : ∃ BLs, BLs = (List.range N).map (mtv (seeR N (relB rel)) (pT tr) (.mk k n ks)) := ⟨_, rfl⟩; have HBs : Hid (BLs = (List.range N).map (mtv (seeR N (relB rel)) (pT tr) (.mk k n ks))) := hBs; rw [← hBs]; obtain ⟨W, hW⟩ : ∃ W, W = ((w.alloc (.cells #[.int .i64 (N : Nat), .slice ra rel.length rc, .slice ta tr.length tc] 25 (0, 0))).alloc (.cells #[.int .i64 k, .string n, .slice sl ks.length cp] 28 (0, 0))).alloc (.cells #[.int .i64 0, .int .i64 0] 34 (0, 0)) := ⟨_, rfl⟩; (have HB0 : Hid (Below w.heap.size w W) := by rw [hW]; exact below_more (below_more (below_more (Below.refl _ w) _) _) _); obtain ⟨b1, b2, b3⟩ := blk_threeM w (.cells #[.int .i64 (N : Nat), .slice ra rel.length rc, .slice ta tr.length tc] 25 (0, 0)) (.cells #[.int .i64 k, .string n, .slice sl ks.length cp] 28 (0, 0)) (.cells #[.int .i64 0, .int .i64 0] 34 (0, 0)); rw [← hW] at b1 b2 b3; have HQ0 : Hid (W.heap[w.heap.size]? = some (.cells #[.int .i64 (N : Nat), .slice ra rel.length rc, .slice ta tr.length tc] 25 (0, 0))) := b1; have HQ1 : Hid (W.heap[w.heap.size + 1]? = some (.cells #[.int .i64 k, .string n, .slice sl ks.length cp] 28 (0, 0))) := b2; have HQ2 : Hid (W.heap[w.heap.size + 1 + 1]? = some (.cells #[.int .i64 0, .int .i64 0] 34 (0, 0))) := b3; have hmm := @run_makeMap Try.prog; clear b1 b2 b3 hu s1 s2 s3 hpl hN hrl hin htr hnm hf h0 hz hBs hec hea
  go_enter Try.func10, Try.ntmps10
  go_wp2_with fail; rw [← hW]; refine (HFF.out _ (HV.out.up HB0.out) (HRep.out.up HB0.out)).mono ?_; rintro _ w1 ⟨rfl, hb1⟩; have HB1 : Hid (Below w.heap.size w w1) := below_join HB0.out hb1; have HQ01 : Hid (w1.heap[w.heap.size]? = some (.cells #[.int .i64 (N : Nat), .slice ra rel.length rc, .slice ta tr.length tc] 25 (0, 0))) := below_keep hb1 HQ0.out; have HQ11 : Hid (w1.heap[w.heap.size + 1]? = some (.cells #[.int .i64 k, .string n, .slice sl ks.length cp] 28 (0, 0))) := below_keep hb1 HQ1.out; have HQ21 : Hid (w1.heap[w.heap.size + 1 + 1]? = some (.cells #[.int .i64 0, .int .i64 0] 34 (0, 0))) := below_keep hb1 HQ2.out; clear hb1 hW; obtain ⟨X, hX⟩ : ∃ X, w1.alloc (.cells #[.int .i64 ec, .int .i64 ea] 34 (0, 0)) = X := ⟨_, rfl⟩; (have HBX : Hid (Below w.heap.size w X) := by rw [← hX]; exact below_more HB1.out _); (have HX0 : Hid (X.heap[w.heap.size]? = some (.cells #[.int .i64 (N : Nat), .slice ra rel.length rc, .slice ta tr.length tc] 25 (0, 0))) := by rw [← hX]; exact alloc_keep HQ01.out _); (have HX1 : Hid (X.heap[w.heap.size + 1]? = some (.cells #[.int .i64 k, .string n, .slice sl ks.length cp] 28 (0, 0))) := by rw [← hX]; exact alloc_keep HQ11.out _); (have HX2 : Hid (X.heap[w.heap.size + 1 + 1]? = some (.cells #[.int .i64 0, .int .i64 0] 34 (0, 0))) := by rw [← hX]; exact alloc_keep HQ21.out _); (obtain ⟨q30, q31, -⟩ := blk2 (show X.heap[w1.heap.size]? = some _ by rw [← hX]; exact blk_new _ _)); obtain ⟨M, hM⟩ : ∃ M, X.heap.size = M := ⟨_, rfl⟩; obtain ⟨X2, hX2⟩ : ∃ X2, (X.alloc (.map #[] 0)).alloc (.cells #[.map (some M)] 63 (0, 0)) = X2 := ⟨_, rfl⟩; have HMs : Hid (X.heap.size = M) := hM; (have HBX2 : Hid (Below X.heap.size X X2) := by rw [← hX2]; exact below_more (below_more (Below.refl _ _) _) _); (have HP2 : Hid (X2.heap[M + 1]? = some (.cells #[.map (some M)] 63 (0, 0))) := by rw [← hX2, ← hM]; exact blk_secE _ _ _)
  have HM2 : Hid (HM N X2 M 0 (fun _ _ => false)) := by
    rw [← hX2, ← hM]; exact (HM.nil (w := X)).kept (alloc_keep (blk_new X _) _ |>.trans (blk_new X _).symm)
  obtain ⟨q00, q01, q02, -⟩ := blk3 (show X2.heap[w.heap.size]? = some _ from below_keep HBX2.out HX0.out); go_wp2_with fail; clear q00 q01 q02 q30 q31 hX2 hX hM hmm
  go_loopg [24] N (fun gg cc wr => ∃ i en, i ≤ N ∧ gg = N - i ∧ cc = .int .i64 (i : Nat) ∧ Hid (HM N wr M en (ppO tr i)) ∧ Hid (en ≤ 30 * i) ∧ Hid (Kept (· ≠ M) X2 wr))
  case atStart => exact ⟨0, 0, by omega, by omega, rfl, HM2.out.ext fun u s _ => by simp [ppO], by show _ ≤ _; omega, Kept.refl _ _⟩
  case round =>
    obtain ⟨i, en, hi, hg, rfl, HHm, HEn, HKr⟩ := hrel; have HGk : Hid (gk = N - i) := hg; clear hg
    have hkb : ∀ b o, b < M → X.heap[b]? = some o → wr.heap[b]? = some o := fun b o hb ho => by
      (rw [HKr.out.block b (by have := lt_of_block (below_keep HBX2.out ho); omega) (by omega)]); exact below_keep HBX2.out ho
    (have HXr : Hid (wr.heap[w.heap.size]? = some (.cells #[.int .i64 (N : Nat), .slice ra rel.length rc, .slice ta tr.length tc] 25 (0, 0))) := hkb _ _ (by have := lt_of_block HX0.out; have := HMs.out; omega) HX0.out); (have HFr : Hid (wr.heap[w.heap.size + 1]? = some (.cells #[.int .i64 k, .string n, .slice sl ks.length cp] 28 (0, 0))) := hkb _ _ (by have := lt_of_block HX1.out; have := HMs.out; omega) HX1.out); (have HZr : Hid (wr.heap[w.heap.size + 1 + 1]? = some (.cells #[.int .i64 0, .int .i64 0] 34 (0, 0))) := hkb _ _ (by have := lt_of_block HX2.out; have := HMs.out; omega) HX2.out); (have HPr : Hid (wr.heap[M + 1]? = some (.cells #[.map (some M)] 63 (0, 0))) := (HKr.out.block _ (lt_of_block HP2.out) (by omega)).trans HP2.out); (have HBw : Hid (Below w.heap.size w wr) := (below_join HBX.out HBX2.out).trans (HKr.out.below (by have := HBX.out.size; have := HBX2.out.size; omega) (fun k hk => by have := HBX.out.size; have := HMs.out; omega))); clear hkb; by_cases hlt : i < N
    · obtain ⟨l, hr⟩ : ∃ r, tr[i]? = some r := ⟨_, List.getElem?_eq_getElem (by rw [HTr.out]; exact hlt)⟩
      obtain ⟨hl30, hlnm⟩ := HNm.out _ (List.mem_of_getElem? hr); (obtain ⟨tb, toff, rfl, hc⟩ := HS3.out (fun e => by have := HTr.out; rw [e] at this; simp at this; omega)); obtain ⟨lu, hlu, hsl⟩ := hc i l hr; have g0 := (HBw.out.cell (lt_of_cell hlu)).trans hlu; obtain ⟨la, lc, rfl, l1, l2, l3⟩ := hsl; have HL3 : Hid (l ≠ [] → ∃ g off, la = some ⟨g, off, none⟩ ∧ ∀ (j : Nat) (t : List UInt8), l[j]? = some t → w.cell? ⟨g, off + j, none⟩ = some (.string ⟨t.toArray⟩)) := l3; have HLn : Hid (∀ t ∈ l, isNm t = true) := hlnm; (have HGd : Hid (tr.getD i [] = l) := by show _ = _; rw [List.getD_eq_getElem?_getD, hr]; rfl); (have hltI : (i : Int) < (N : Int) := by omega); (have hltt : (i : Int) < (tr.length : Int) := by have := HTr.out; omega); (have hltc : (i : Int) < (tc : Int) := by omega); have HIl : Hid (i < N) := hlt; (have hlI : (l.length : Int) ≤ 30 := by omega); (have hlc : (l.length : Int) ≤ (lc : Int) := by omega); have HL30 : Hid (l.length ≤ 30) := hl30; (have HM0 : Hid (HM N wr M en (ppI tr i 0)) := HHm.out.ext fun u s _ => ppI_zero tr i u s); obtain ⟨U, hU⟩ : ∃ U, U = wr := ⟨_, rfl⟩; subst hU; have HKU := HKr; obtain ⟨en0, hen0⟩ : ∃ en0, en0 = en := ⟨_, rfl⟩; (have HE0 : Hid (en0 ≤ 30 * i) := by rw [hen0]; exact HEn); rw [← hen0] at HM0; clear hlt hi hc hlu hr hlnm l1 l2 l3 hl30 HXr HFr HZr HPr HBw HKr HHm HEn hen0; go_wp2_with fail; clear g0
      go_loopg [31] l.length (fun gg cc wr => ∃ j en, j ≤ l.length ∧ gg = l.length - j ∧ cc = .int .i64 (j : Nat) ∧ Hid (HM N wr M en (ppI tr i j)) ∧ Hid (en ≤ 30 * i + j) ∧ Hid (Kept (· ≠ M) X2 wr))
      case atStart => exact ⟨0, en0, by omega, by omega, rfl, HM0, by show _ ≤ _; have := HE0.out; omega, HKU⟩
      case round =>
        obtain ⟨j, en, hj, hg, rfl, HHm, HEn, HKr⟩ := hrel; have HGj : Hid (gk = l.length - j) := hg; clear hg; (have HPr : Hid (wr.heap[M + 1]? = some (.cells #[.map (some M)] 63 (0, 0))) := (HKr.out.block _ (lt_of_block HP2.out) (by omega)).trans HP2.out); (have HBw : Hid (Below w.heap.size w wr) := (below_join HBX.out HBX2.out).trans (HKr.out.below (by have := HBX.out.size; have := HBX2.out.size; omega) (fun k hk => by have := HBX.out.size; have := HMs.out; omega))); by_cases hlt : j < l.length
        · obtain ⟨t, hr⟩ : ∃ r, l[j]? = some r := ⟨_, List.getElem?_eq_getElem hlt⟩
          have htn := HLn.out _ (List.mem_of_getElem? hr); (obtain ⟨lb, loff, rfl, hc⟩ := HL3.out (fun e => by rw [e] at hlt; simp at hlt)); have g0 := (HBw.out.cell (lt_of_cell (hc j t hr))).trans (hc j t hr); have ht8 : t.length ≤ 8 := nm8 htn; (have HKey : Hid (keyOf Try.prog 9 (.string ⟨t.toArray⟩) = some (.string t)) := keyStr t (by unfold maxLen; omega)); (obtain ⟨s, hs⟩ : ∃ s, s = bm N (fun u => ppI tr i j u t) := ⟨_, rfl⟩); (obtain ⟨s1, hs1⟩ : ∃ s1, s1 = bm N (fun u => ppI tr i j u t || u == i) := ⟨_, rfl⟩); (have HLk : Hid (∀ wx, Below wr.heap.size wr wx → (Instr.lookup 63 (.map (some M)) (.string ⟨t.toArray⟩) false).run Try.prog wx = .ok (.int .u64 (s : Nat)) wx) := fun wx hb => by rw [hs]; exact (HHm.out.up hb).look t (by unfold maxLen; omega)); (have HSa : Hid (s = bm N (fun u => ppI tr i j u t)) := hs); (have HSb : Hid (s1 = bm N (fun u => ppI tr i j u t || u == i)) := hs1); (have HJt : Hid ((tr.getD i [])[j]? = some t) := by rw [HGd.out]; exact hr); (have hltI2 : (j : Int) < (l.length : Int) := by omega); (have hltc2 : (j : Int) < (lc : Int) := by omega); have HJl : Hid (j < l.length) := hlt; have HL9 := HL30; generalize (⟨t.toArray⟩ : ByteArray) = T at *; clear hc hr hlt hj htn ht8 hs hs1; go_wp2_with fail; clear g0; (refine wp_region_last (by kernel_rfl) [fun v _ => v = (.map (some M)), fun v _ => v = (.string T), fun v _ => v = (.map (some M)), fun v _ => v = (.string T), fun v _ => v = (.int .u64 (s : Nat)), fun v _ => v = (.int .i64 (i : Nat)), fun v w => ∃ b, v = .slice (some ⟨b, 0, none⟩) 1 1 ∧ w.cell? ⟨b, 0, none⟩ = some (.int .i64 (i : Nat)), fun v _ => v = (.int .u64 (s1 : Nat))] ?_ (by kernel_rfl) (by kernel_rfl) 55 rfl (by kernel_rfl) 8 _ rfl rfl (by kernel_rfl) ?_ ?_)
          · intro p hp
            simp only [List.mem_cons, List.not_mem_nil, or_false] at hp
            rcases hp with rfl | rfl | rfl | rfl | rfl | rfl | rfl | rfl
            · exact fun _ _ _ h _ => h
            · exact fun _ _ _ h _ => h
            · exact fun _ _ _ h _ => h
            · exact fun _ _ _ h _ => h
            · exact fun _ _ _ h _ => h
            · exact fun _ _ _ h _ => h
            · rintro v w1 w2 ⟨b, e, h⟩ hb
              exact ⟨b, e, (hb.cell (lt_of_cell h)).trans h⟩
            · exact fun _ _ _ h _ => h
          · refine ⟨?_, ?_, ?_, ?_, ?_, ?_, ?_, ?_, trivial⟩
            · intro a wx hB hold hdep K hK
              have t7 : a.tmps[7]? = some (.pointer (some ⟨M + 1, 0, none⟩)) := hold.2.2 7 rfl; obtain ⟨k9, -⟩ := blk1 (below_keep hB HPr.out); clear hold hdep; go_simp; exact hK.out _ _ rfl (Below.refl _ _)
            · intro a wx hB hold hdep K hK
              have t11 : a.tmps[11]? = some (.string T) := hold.2.2 11 rfl; clear hold hdep; go_simp; exact hK.out _ _ rfl (Below.refl _ _)
            · intro a wx hB hold hdep K hK
              have t7 : a.tmps[7]? = some (.pointer (some ⟨M + 1, 0, none⟩)) := hold.2.2 7 rfl; obtain ⟨k9, -⟩ := blk1 (below_keep hB HPr.out); clear hold hdep; go_simp; exact hK.out _ _ rfl (Below.refl _ _)
            · intro a wx hB hold hdep K hK
              have t11 : a.tmps[11]? = some (.string T) := hold.2.2 11 rfl; clear hold hdep; go_simp; exact hK.out _ _ rfl (Below.refl _ _)
            · intro a wx hB hold hdep K hK
              obtain ⟨v37, t37, p37⟩ := hdep 2 rfl _ 37 rfl rfl; have e37 : v37 = (.map (some M)) := p37; subst e37; obtain ⟨v38, t38, p38⟩ := hdep 3 rfl _ 38 rfl rfl; have e38 : v38 = (.string T) := p38; subst e38; have hlk := HLk.out wx hB; clear hold hdep; go_simp; exact hK.out _ _ rfl (Below.refl _ _)
            · intro a wx hB hold hdep K hK
              have t8 : a.tmps[8]? = some (.int .i64 (i : Nat)) := hold.2.2 8 rfl; clear hold hdep; go_simp; exact hK.out _ _ rfl (Below.refl _ _)
            · intro a wx hB hold hdep K hK
              obtain ⟨v40, t40, p40⟩ := hdep 5 rfl _ 40 rfl rfl; have e40 : v40 = (.int .i64 (i : Nat)) := p40; subst e40; clear hold hdep; go_simp; (exact hK.out _ _ ⟨_, rfl, by simp⟩ (below_more (Below.refl _ _) _))
            · intro a wx hB hold hdep K hK
              obtain ⟨v39, t39, p39⟩ := hdep 4 rfl _ 39 rfl rfl; have e39 : v39 = (.int .u64 (s : Nat)) := p39; subst e39; obtain ⟨v41, t41, p41⟩ := hdep 6 rfl _ 41 rfl rfl; (have P41 : Hid ((fun v w => ∃ b, v = .slice (some ⟨b, 0, none⟩) 1 1 ∧ w.cell? ⟨b, 0, none⟩ = some (.int .i64 (i : Nat))) v41 wx) := p41); clear p41; obtain ⟨b, rfl, hb⟩ := P41.out; have HW : Hid (Calls Try.prog 28 #[.int .u64 (s : Nat), .slice (some ⟨b, 0, none⟩) 1 1] wx _) := set_with1x HN.out _ HSa.out i b HIl.out wx hb; clear hb P41; clear hold hdep; go_simp; refine HW.out.mono ?_; rintro _ w9 ⟨rfl, e9⟩
              replace e9 := e9.symm
              subst e9; go_simp; (exact hK.out _ _ (congrArg (fun x : Nat => Value.int .u64 (x : Int)) HSb.out.symm) (Below.refl _ _))
          · intro a wx hB hold hgot K hK
            (obtain ⟨vA, tvA, pvA⟩ := hgot 0 _ 35 (by omega) rfl rfl); have evA : vA = (.map (some M)) := pvA; subst evA; (obtain ⟨vB, tvB, pvB⟩ := hgot 1 _ 36 (by omega) rfl rfl); have evB : vB = (.string T) := pvB; subst evB; (obtain ⟨vC, tvC, pvC⟩ := hgot 7 _ 42 (by omega) rfl rfl); have evC : vC = (.int .u64 (s1 : Nat)) := pvC; subst evC; have HBx : Hid (Below wr.heap.size wr wx) := hB; obtain ⟨D, hown, hD⟩ := HHm.out.up hB; (have HD : Hid (∀ s : List UInt8, s.length ≤ maxLen → D.atKey (.string s) (.lit (.int .u64 0)) = .lit (.int .u64 (bm N (fun u => ppI tr i j u s) : Nat))) := hD); (refine step_mapE _ rfl _ _ _ 63 rfl 9 65 strKeyed Try.underlying63 _ M en D (by simp [go_sem, tvA]) hown (by have := HEn.out; have := HJl.out; have := HIl.out; have := HN.out; unfold maxLen; omega) (.string T) (.int .u64 (s1 : Nat)) (.string t) (by simp [go_sem, tvB]) (by simp [go_sem, tvC]) HKey.out _ [] (plainElem_int Try.underlying65 (wf_set (by rw [HSb.out]; exact bm_small HN.out _))) ?_); intro w7 hown7 hgrow7
            have HM7 : Hid (HM N w7 M (en + 1) (ppI tr i (j + 1))) := by
              rw [HSb.out] at hown7; (exact (HM.snoc hown HD.out hown7).ext fun u s _ => ppI_succ HJt.out)
            (have HK7 : Hid (Kept (· ≠ M) X2 w7) := (HKr.out.trans (kept_of_below HBx.out fun _ h _ => h)).trans (kept_grown hgrow7 fun k h e => h (by cases e; rfl))); clear hown hD hown7 hgrow7 HD HBx hB; obtain ⟨tm, df⟩ := a; (obtain ⟨ys, hys, htm, rfl⟩ := frame_mid2 35 8 (by kernel_rfl) (Nat.le_of_ble_eq_true rfl) hold); obtain ⟨x35, x36, x37, x38, x39, x40, x41, x42, rfl⟩ := rowE8 ys hys; simp only [List.take_succ_cons, List.take_zero, List.drop_succ_cons, List.drop_zero, List.cons_append, List.nil_append] at htm; subst htm; obtain rfl : x35 = _ := someInjM tvA; obtain rfl : x36 = _ := someInjM tvB; obtain rfl : x42 = _ := someInjM tvC; clear hys hold hgot tvA pvA tvB pvB tvC pvC; refine hK.out _ _ ?_; clear hK; go_wp2_with fail
            go_roundg (l.length - (j + 1))
            case measure => have := HGj.out; have := HJl.out; omega
            case rel => exact ⟨j + 1, en + 1, HJl.out, rfl, by go_num, HM7, by show _ ≤ _; have := HEn.out; omega, HK7⟩
        · have hjj : j = l.length := by omega
          subst hjj; (have hge : ¬ (l.length : Int) < (l.length : Int) := by omega)
          have HM1 : Hid (HM N wr M en (ppO tr (i + 1))) := HHm.out.ext fun u s _ => by
            have := ppI_full tr i u s; rw [HGd.out] at this; exact this
          clear hlt hj HHm; go_wp2_with fail
          go_roundg (N - (i + 1))
          case measure => have := HGk.out; have := HIl.out; omega
          case rel => exact ⟨i + 1, en, HIl.out, rfl, by go_num, HM1, by show _ ≤ _; have := HEn.out; have := HL30.out; omega, HKr⟩
    · have hii : N = i := by omega
      subst hii; (have hge : ¬ (N : Int) < (N : Int) := by omega)
      have HHf : Hid (HM N wr M en (pT tr)) := HHm.out.ext fun u s hu => by
        (have := ppO_all (tr := tr) (u := u) (s := s) (by rw [HTr.out]; exact hu)); rw [HTr.out] at this; exact this
      clear hlt hi HHm; (have hgt : ¬ (N : Int) < (tr.length : Int) := by have := HTr.out; omega); go_wp2_with fail; (refine wp_region_last (by kernel_rfl) [fun v _ => v = (.agg #[.int .i64 (N : Nat), .slice ra rel.length rc, .slice ta tr.length tc]), fun v w => ∃ g, v = .slice (some ⟨g, 0, none⟩) N N ∧ FR w g N (relB rel), fun v _ => v = (.agg #[.int .i64 k, .string n, .slice sl ks.length cp]), fun v _ => v = (.func (.func 31) #[] #[.pointer (some ⟨M + 1, 0, none⟩)]), fun v _ => v = (.int .u64 (z : Nat))] ?_ (by kernel_rfl) (by kernel_rfl) 55 rfl (by kernel_rfl) 5 _ rfl rfl (by kernel_rfl) ?_ ?_)
      · intro p hp
        simp only [List.mem_cons, List.not_mem_nil, or_false] at hp
        rcases hp with rfl | rfl | rfl | rfl | rfl
        · exact fun _ _ _ h _ => h
        · rintro v w1 w2 ⟨g, e, h⟩ hb
          exact ⟨g, e, h.up hb⟩
        · exact fun _ _ _ h _ => h
        · exact fun _ _ _ h _ => h
        · exact fun _ _ _ h _ => h
      · refine ⟨?_, ?_, ?_, ?_, ?_, trivial⟩
        · intro a wx hB hold hdep K hK
          have t2 : a.tmps[2]? = some (.pointer (some ⟨w.heap.size, 0, none⟩)) := hold.2.2 2 rfl; obtain ⟨k0, k1, k2, -⟩ := blk3 (below_keep hB HXr.out); clear hold hdep; go_simp; exact hK.out _ _ rfl (Below.refl _ _)
        · intro a wx hB hold hdep K hK
          obtain ⟨v45, t45, p45⟩ := hdep 0 rfl _ 45 rfl rfl; have e45 : v45 = (.agg #[.int .i64 (N : Nat), .slice ra rel.length rc, .slice ta tr.length tc]) := p45; subst e45; have HW : Hid (Calls Try.prog 29 #[(.agg #[.int .i64 (N : Nat), .slice ra rel.length rc, .slice ta tr.length tc])] wx _) := frameOf_any N HN.out rel HRl.out HIn.out ra ta rc tr.length tc wx ((HPl.out.up HBw.out).up hB); clear hold hdep; go_simp; refine HW.out.mono ?_; rintro _ w9 ⟨g, rfl, -, hfr, hb9⟩; have H9 : Hid (FR w9 g N (relB rel)) := hfr; clear hfr; go_simp; exact hK.out _ _ ⟨g, rfl, H9.out⟩ hb9
        · intro a wx hB hold hdep K hK
          have t3 : a.tmps[3]? = some (.pointer (some ⟨w.heap.size + 1, 0, none⟩)) := hold.2.2 3 rfl; obtain ⟨k0, k1, k2, -⟩ := blk3 (below_keep hB HFr.out); clear hold hdep; go_simp; exact hK.out _ _ rfl (Below.refl _ _)
        · intro a wx hB hold hdep K hK
          have t7 : a.tmps[7]? = some (.pointer (some ⟨M + 1, 0, none⟩)) := hold.2.2 7 rfl; (have hmf : ∀ (fn : Fn) (first cap : Array Value) (w : World), (Instr.makeFunc fn first cap).run Try.prog w = .ok (.func fn first cap) w := fun _ _ _ _ => rfl); clear hold hdep; go_simp; exact hK.out _ _ rfl (Below.refl _ _)
        · intro a wx hB hold hdep K hK
          obtain ⟨v46, t46, p46⟩ := hdep 1 rfl _ 46 rfl rfl; (have P46 : Hid ((fun v w => ∃ g, v = .slice (some ⟨g, 0, none⟩) N N ∧ FR w g N (relB rel)) v46 wx) := p46); clear p46; obtain ⟨v47, t47, p47⟩ := hdep 2 rfl _ 47 rfl rfl; have e47 : v47 = (.agg #[.int .i64 k, .string n, .slice sl ks.length cp]) := p47; subst e47; obtain ⟨v48, t48, p48⟩ := hdep 3 rfl _ 48 rfl rfl; have e48 : v48 = (.func (.func 31) #[] #[.pointer (some ⟨M + 1, 0, none⟩)]) := p48; subst e48; obtain ⟨g, rfl, hfr⟩ := P46.out
          have HW : Hid (Calls Try.prog 30 #[.slice (some ⟨g, 0, none⟩) N N, (.agg #[.int .i64 k, .string n, .slice sl ks.length cp]), (.func (.func 31) #[] #[.pointer (some ⟨M + 1, 0, none⟩)])] wx fun e w' => e = .returned (.int .u64 (z : Nat)) ∧ Below wx.heap.size wx w') := by
            rw [HZ.out]; exact where_any HN.out (havE (M + 1) (pT tr)) g (relB rel) (.mk k n ks) _ wx HFi.out ((HRep.out.up HBw.out).up hB) hfr ⟨M, en, below_keep hB HPr.out, HHf.out.up hB⟩
          clear hfr P46; clear hold hdep; go_simp; refine HW.out.mono ?_; rintro _ w9 ⟨rfl, hb9⟩; go_simp; exact hK.out _ _ rfl hb9
      · intro a wx hB hold hgot K hK
        (obtain ⟨vA, tvA, pvA⟩ := hgot 4 _ 49 (by omega) rfl rfl); have evA : vA = (.int .u64 (z : Nat)) := pvA; subst evA; have HBx : Hid (Below wr.heap.size wr wx) := hB; have HZx : Hid (wx.heap[w.heap.size + 1 + 1]? = some (.cells #[.int .i64 0, .int .i64 0] 34 (0, 0))) := below_keep hB HZr.out; have HXx : Hid (wx.heap[w.heap.size]? = some (.cells #[.int .i64 (N : Nat), .slice ra rel.length rc, .slice ta tr.length tc] 25 (0, 0))) := below_keep hB HXr.out; obtain ⟨tm, df⟩ := a; (obtain ⟨ys, zs, hys, hzs, htm, rfl⟩ := frame_two 12 1 32 5 13 45 50 rfl rfl rfl (by kernel_rfl) (Nat.le_of_ble_eq_true rfl) hold); obtain ⟨x12, rfl⟩ := rowE1 ys hys; obtain ⟨x45, x46, x47, x48, x49, rfl⟩ := rowE5 zs hzs; simp only [List.take_succ_cons, List.take_zero, List.drop_succ_cons, List.drop_zero, List.cons_append, List.nil_append] at htm; subst htm; obtain rfl : x49 = _ := someInjM tvA; clear hys hzs hold hgot tvA pvA hB; go_simp; refine hK.out _ _ ?_; clear hK; obtain ⟨k0, k1, k2, -⟩ := blk3 HXx.out
        have HBo : Hid (Calls Try.prog 32 #[.int .u64 (z : Nat), .int .i64 (N : Nat)] wx fun e w' => ∃ x, e = .returned x ∧ BL w' x BLs ∧ Below wx.heap.size wx w') := by
          rw [HZ.out, HBs.out]; exact set_bools HN.out _ wx
        go_wp2_with fail; refine HBo.out.mono ?_; rintro _ w8 ⟨x, rfl, hbl, hb8⟩; have HBl : Hid (BL w8 x BLs) := hbl; have HZ8 : Hid (w8.heap[w.heap.size + 1 + 1]? = some (.cells #[.int .i64 0, .int .i64 0] 34 (0, 0))) := below_keep hb8 HZx.out; have HB8 : Hid (Below w.heap.size w w8) := below_join (below_join HBw.out HBx.out) hb8; (have HZ0 : Hid (∀ b, b < wx.heap.size → w8.heap[b]? = wx.heap[b]?) := fun b hb => hb8.block b hb); clear hbl hb8 k0 k1 k2; obtain ⟨k1, k2, k3, k4⟩ := blk2 HZ8.out; go_wp2_with fail; have f2 := set2 HZ8.out (.int .i64 0) (.int .i64 0); (have b2 := (HB8.out.setCell (p := ⟨w.heap.size + 1 + 1, 0, none⟩) (by simp; omega) (.int .i64 0)).setCell (p := ⟨w.heap.size + 1 + 1, 1, none⟩) (by simp; omega) (.int .i64 0)); have b3 : BL ((w8.setCell ⟨w.heap.size + 1 + 1, 0, none⟩ (.int .i64 0)).setCell ⟨w.heap.size + 1 + 1, 1, none⟩ (.int .i64 0)) x BLs := BL.off (BL.off HBl.out HZ8.out _ _) (set_cellE HZ8.out _) _ _; generalize World.setCell _ _ _ = F at f2 b2 b3 ⊢; clear k1 k2 k3 k4; obtain ⟨o1, o2, -⟩ := blk2 f2; (exact bodyPost_ret (v := .tuple #[x, .agg #[.int .i64 0, .int .i64 0]]) (by simp [results, Try.results10, go_sem, o1, o2]) rfl ⟨x, rfl, b3, b2⟩)
end Go.Proofs.Ytfhbpfgbnfcdaag
