/- Texts of one proof, one behind the other: ME9, MS2. -/
import Derived.Test.YtfhbpfgbnfcdaagB23
import Derived.Test.YtfhbpfgbnfcdaagB15
import Derived.RegionTactic
import Derived.Test.YtfhbpfgbnfcdaagB12
/- Walks: modal.Eval, whole. -/
namespace Go.Proofs.Ytfhbpfgbnfcdaag
open Go.RowKit

set_option maxHeartbeats 4000000 in
theorem eval_bad (m : Mdl) (f : Fm) (h0 : (mfcode m f).1 ≠ 0) (v u : Value) (w : World) (hv : MR w m v) (hu : Rep w (fun _ => True) f u) :
    Calls Try.prog 10 #[v, u] w fun e w' => e = .returned (.tuple #[.slice none 0 0, .agg #[.int .i64 (mfcode m f).1, .int .i64 (mfcode m f).2]]) ∧ Below w.heap.size w w' := by
  (have HFF : Hid (∀ w, MR w m v → Rep w (fun _ => True) f u → Calls Try.prog 27 #[v, u] w fun e w' => e = .returned (.agg #[.int .i64 (mfcode m f).1, .int .i64 (mfcode m f).2]) ∧ Below w.heap.size w w') := fun w h1 h2 => firstFault_any m f v u w h1 h2); have HV : Hid (MR w m v) := hv; (have HRep : Hid (Rep w (fun _ => True) f u) := hu); obtain ⟨ra, rc, ta, tc, rfl, -⟩ := hv; obtain ⟨k, n, ks⟩ := f; obtain ⟨sl, cp, rfl⟩ := slice_shape hu; generalize mfcode m (.mk k n ks) = md at *; obtain ⟨c, a⟩ := md; (have hcn : (c != 0) = true := by simpa using h0); obtain ⟨W, hW⟩ : ∃ W, W = ((w.alloc (.cells #[.int .i64 m.n, .slice ra m.rel.length rc, .slice ta m.tr.length tc] 25 (0, 0))).alloc (.cells #[.int .i64 k, .string n, .slice sl ks.length cp] 28 (0, 0))).alloc (.cells #[.int .i64 0, .int .i64 0] 34 (0, 0)) := ⟨_, rfl⟩; (have HB0 : Hid (Below w.heap.size w W) := by rw [hW]; exact below_more (below_more (below_more (Below.refl _ w) _) _) _); obtain ⟨-, -, b3⟩ := blk_threeM w (.cells #[.int .i64 m.n, .slice ra m.rel.length rc, .slice ta m.tr.length tc] 25 (0, 0)) (.cells #[.int .i64 k, .string n, .slice sl ks.length cp] 28 (0, 0)) (.cells #[.int .i64 0, .int .i64 0] 34 (0, 0)); rw [← hW] at b3; have HQ2 : Hid (W.heap[w.heap.size + 1 + 1]? = some (.cells #[.int .i64 0, .int .i64 0] 34 (0, 0))) := b3; clear b3 hu h0
  go_enter Try.func10, Try.ntmps10
  go_wp2_with fail; rw [← hW]; refine (HFF.out _ (HV.out.up HB0.out) (HRep.out.up HB0.out)).mono ?_; rintro _ w1 ⟨rfl, hb1⟩; have HB1 : Hid (Below w.heap.size w w1) := below_join HB0.out hb1; have HR1 : Hid (w1.heap[w.heap.size + 1 + 1]? = some (.cells #[.int .i64 0, .int .i64 0] 34 (0, 0))) := below_keep hb1 HQ2.out; clear hb1 hW; obtain ⟨X, hX⟩ : ∃ X, w1.alloc (.cells #[.int .i64 c, .int .i64 a] 34 (0, 0)) = X := ⟨_, rfl⟩; (have HXr : Hid (X.heap[w.heap.size + 1 + 1]? = some (.cells #[.int .i64 0, .int .i64 0] 34 (0, 0))) := by rw [← hX]; exact alloc_keep HR1.out _); obtain ⟨q20, q21, q22, q23⟩ := blk2 HXr.out; (obtain ⟨q30, q31, -⟩ := blk2 (show X.heap[w1.heap.size]? = some _ by rw [← hX]; exact blk_new _ _)); (have HBX : Hid (Below w.heap.size w X) := by rw [← hX]; exact below_more HB1.out _); go_wp2_with fail
  go_region
  all_goals
    go_wp2_with fail; have f2 := set2 HXr.out (.int .i64 c) (.int .i64 a); (have b2 := (HBX.out.setCell (p := ⟨w.heap.size + 1 + 1, 0, none⟩) (by simp; omega) (.int .i64 c)).setCell (p := ⟨w.heap.size + 1 + 1, 1, none⟩) (by simp; omega) (.int .i64 a)); generalize World.setCell _ _ _ = F at f2 b2 ⊢; clear q20 q21 q22 q23; obtain ⟨o1, o2, -⟩ := blk2 f2; (exact bodyPost_ret (v := .tuple #[.slice none 0 0, .agg #[.int .i64 c, .int .i64 a]]) (by simp [results, Try.results10, go_sem, o1, o2]) rfl ⟨rfl, b2.drew⟩)
/-- A model and a formula in which nothing is wrong. -/
theorem mf_ok {m : Mdl} {f : Fm} (h : (mfcode m f).1 = 0) : mfcode m f = (0, 0) ∧ (mdcode 40 2000 m).1 = 0 ∧ f.code = (0, 0) ∧ Fine f := by
  unfold mfcode at h ⊢
  split at h
  · rename_i h1
    have h2 := code_zero h; obtain ⟨s, hs⟩ := code_chk h2; rw [if_pos h1]; exact ⟨h2, h1, h2, fine_of_chk f 0 s hs⟩
  · rename_i h1
    exact absurd h h1
theorem eval_any (m : Mdl) (f : Fm) (v u : Value) (w : World) (hv : MR w m v) (hu : Rep w (fun _ => True) f u) :
    Calls Try.prog 10 #[v, u] w fun e w' => ∃ x, e = .returned (.tuple #[x, .agg #[.int .i64 (mfcode m f).1, .int .i64 (mfcode m f).2]]) ∧ BL w' x (if (mfcode m f).1 = 0 then evL m f else []) ∧ Below w.heap.size w w' := by
  by_cases h0 : (mfcode m f).1 = 0
  · rw [if_pos h0]
    obtain ⟨h1, h2, -, h4⟩ := mf_ok h0; obtain ⟨N, hn, -, hN, hr, ht, hin⟩ := mdcode_in h2; have hnm := mdcode_names h2; obtain ⟨n, rel, tr⟩ := m; simp only at hn hr ht hin hnm; subst hn; rw [h1]; (refine (eval_ok N (by omega) rel (by omega) hin tr ht hnm f h4 h1 v u w hv hu).mono fun e w' h => ?_); obtain ⟨x, e1, e2, e3⟩ := h; (exact ⟨x, e1, by simpa [evL] using e2, e3⟩)
  · rw [if_neg h0]
    (refine (eval_bad m f h0 v u w hv hu).mono fun e w' h => ?_); exact ⟨_, h.1, BL.nil, h.2⟩
end Go.Proofs.Ytfhbpfgbnfcdaag
/- Walks: frame.holds: all that might be true is gone through. -/
namespace Go.Proofs.Ytfhbpfgbnfcdaag
open Go.RowKit Go.Maps Go.WideMaps

/-- What a row says of names: a digit for each world, name by name. -/
def plc (l : List (List UInt8)) (s : List UInt8) : Nat := if s ∈ l then l.idxOf s else 0
def pH (N : Nat) (l : List (List UInt8)) (row u : Nat) (s : List UInt8) : Bool := row.testBit (N * plc l s + u)
def holdsB (N : Nat) (S : Nat → List Nat) (l : List (List UInt8)) (f : Fm) : Bool := (List.range (2 ^ (N * l.length))).all fun row => (List.range N).all fun u => mtv S (pH N l row) f u
def OkX (N rb fb mb ab row g : Nat) (l : List (List UInt8)) (w : World) : Prop := ∃ b, w.heap[rb]? = some (.cells #[.int .u64 (row : Nat)] 65 (0, 0)) ∧ w.heap[fb]? = some (.cells #[.slice (some ⟨g, 0, none⟩) N N] 68 (0, 0)) ∧ w.heap[mb]? = some (.cells #[.map (some b)] 99 (0, 0)) ∧ w.heap[ab]? = some (.cells #[.int .u64 (bm N (fun _ => true) : Nat)] 65 (0, 0)) ∧ PM w b l
theorem PM.lookP {w : World} {b : Nat} {l : List (List UInt8)} (hnd : l.Nodup) (h : PM w b l) (t : List UInt8) (ht : t.length ≤ maxLen) : (Instr.lookup 99 (.map (some b)) (.string ⟨t.toArray⟩) false).run Try.prog w = .ok (.int .i64 (plc l t : Nat)) w := by
  obtain ⟨n, D, ho, -, h1, h2⟩ := h; obtain ⟨c, hrun, hat, -⟩ := ho.lookup_int strKeyed Try.underlying99 Try.underlying3 (zeroInt w) (keyStr t ht)
  have hc : c = ((plc l t : Nat) : Int) := by
   unfold plc; by_cases hm : t ∈ l
   · obtain ⟨i, hi, hz⟩ := h2 t hm
     rw [hz] at hat; rw [if_pos hm, idxOf_of_get hnd hi]; simp only [DataW.lit.injEq, Lit.int.injEq, true_and] at hat; exact hat.symm
   · rw [atKey_of_not_has (by rw [h1 t ht]; exact decide_eq_false hm)] at hat
     rw [if_neg hm]; simp only [DataW.lit.injEq, Lit.int.injEq, true_and] at hat; exact hat.symm
  rw [hrun, hc]
theorem plc_le (l : List (List UInt8)) (s : List UInt8) : plc l s ≤ l.length := by
  unfold plc
  split
  · exact List.idxOf_le_length
  · omega
/-- The digits of a name in a row. -/
theorem row_bits {N row k : Nat} (hN : N ≤ 40) (hr : row < 1099511627776) : bits .and .u64 ((row : Int) / 2 ^ k) (bm N (fun _ => true) : Nat) = ((bm N (fun u => row.testBit (k + u)) : Nat) : Int) := by
  have hd : ((row : Int) / 2 ^ k) = ((row / 2 ^ k : Nat) : Int) := by
    rw [Int.natCast_ediv]; simp
  rw [hd, u64_and (Nat.lt_of_le_of_lt (Nat.div_le_self _ _) hr) (bm_small hN _)]
  congr 1
  apply bm_eq; intro i; rw [Nat.testBit_and, bm_bit, Nat.testBit_div_two_pow]; rw [Nat.add_comm]
  cases decide (i < N) <;> simp
theorem u64_succ {row M : Nat} (h : row < M) (hM : (M : Int) ≤ 4096) : Value.int .u64 (IntKind.u64.wrap ((row : Int) + 1)) = .int .u64 ((row + 1 : Nat) : Int) := by
  (have e : ((2 : Int) ^ 62) = 4611686018427387904 := by decide); (rw [wraps_u64 _ (by omega) (by rw [e]; omega)]); rfl
set_option maxHeartbeats 2000000 in
theorem holds1_any {N : Nat} (hN : N ≤ 40) (l : List (List UInt8)) (hnd : l.Nodup) (hl : N * l.length ≤ 12) (rb fb mb ab row g : Nat) (hr : row < 1099511627776) (n : ByteArray) (w : World) (hok : OkX N rb fb mb ab row g l w) (hn : n.size ≤ 8) :
    Calls Try.prog 57 (#[.string n] ++ #[.pointer (some ⟨rb, 0, none⟩), .pointer (some ⟨fb, 0, none⟩), .pointer (some ⟨mb, 0, none⟩), .pointer (some ⟨ab, 0, none⟩)]) w fun e w' => e = .returned (.int .u64 (bm N (fun u => pH N l row u n.data.toList) : Nat)) ∧ Below w.heap.size w w' := by
  obtain ⟨b, h1, h2, h3, h4, hpm⟩ := hok; obtain ⟨t, rfl⟩ : ∃ t : List UInt8, n = ⟨t.toArray⟩ := ⟨n.data.toList, rfl⟩; (have hl8 : t.length ≤ 8 := by simpa [ByteArray.size] using hn); (have hlk : ∀ n, (Instr.lookup 99 (.map (some b)) (.string ⟨t.toArray⟩) false).run Try.prog (w.drewN n) = .ok (.int .i64 (plc l t : Nat)) (w.drewN n) := fun n => PM.lookP hnd (hpm.up (Below.drewE n (Below.refl _ _))) t (by unfold maxLen; omega)); obtain ⟨c1, -⟩ := blk1 h1; obtain ⟨c2, -⟩ := blk1 h2; obtain ⟨c3, -⟩ := blk1 h3; obtain ⟨c4, -⟩ := blk1 h4; have he : ((⟨t.toArray⟩ : ByteArray).data.toList) = t := rfl; rw [he]; have hpl := plc_le l t; obtain ⟨k, hk⟩ : ∃ k, k = N * plc l t := ⟨_, rfl⟩; (have hk12 : k ≤ 12 := by rw [hk]; exact Nat.le_trans (Nat.mul_le_mul (Nat.le_refl _) hpl) hl); (have hkI : (N : Int) * (plc l t : Int) = (k : Int) := by rw [hk]; simp); have hbits := row_bits (k := k) hN hr
  have HR : Hid (bits .and .u64 ((row : Int) / 2 ^ k) (bm N (fun _ => true) : Nat) = ((bm N (fun u => pH N l row u t) : Nat) : Int)) := by
    (have e : (fun u => pH N l row u t) = fun u => row.testBit (k + u) := by funext u; rw [pH, hk]); rw [e]; exact hbits
  (have hkb : (k : Int) ≤ 12 := by omega); (have hNI : (N : Int) ≤ 40 := by omega); generalize plc l t = pl at *; generalize (⟨t.toArray⟩ : ByteArray) = T at *; (generalize bm N (fun u => pH N l row u t) = res at *); (generalize bm N (fun _ => true) = al at *); clear h1 h2 h3 h4 hpm hk hbits hpl hn hl8 he hl hN; (have hwk : IntKind.i64.wrap (k : Int) = (k : Int) := by rw [IntKind.wrap_i64]; omega); show Calls Try.prog 57 #[.string T, .pointer (some ⟨rb, 0, none⟩), .pointer (some ⟨fb, 0, none⟩), .pointer (some ⟨mb, 0, none⟩), .pointer (some ⟨ab, 0, none⟩)] w _
  go_enter Try.func57, Try.ntmps57
  go_wp2_with fail
  go_quiet (fail)
  go_wp2_with fail; go_ret; (exact ⟨congrArg (fun x : Int => Ending.returned (Value.int .u64 x)) HR.out, Below.drewE _ (Below.refl _ _)⟩)
theorem holds1_in (cap : Array Value) (w : World) : (callFunc 57 cap).run Try.prog w = .ok (.enter 57 cap) w := by
  simp [go_sem]
theorem havX {N : Nat} (hN : N ≤ 40) (l : List (List UInt8)) (hnd : l.Nodup) (hl : N * l.length ≤ 12) (rb fb mb ab row g : Nat) (hr : row < 1099511627776) : Hav N 57 #[.pointer (some ⟨rb, 0, none⟩), .pointer (some ⟨fb, 0, none⟩), .pointer (some ⟨mb, 0, none⟩), .pointer (some ⟨ab, 0, none⟩)] (pH N l row) (OkX N rb fb mb ab row g l) where
  up := fun ⟨b, h1, h2, h3, h4, h5⟩ hb => ⟨b, below_keep hb h1, below_keep hb h2, below_keep hb h3, below_keep hb h4, h5.up hb⟩
  ent := fun _ w => holds1_in _ w
  call := fun n w hok hn => holds1_any hN l hnd hl rb fb mb ab row g hr n w hok hn
theorem rowE6 (l : List Value) (h0 : l.length = 6) : ∃ x0 x1 x2 x3 x4 x5, l = [x0, x1, x2, x3, x4, x5] := by
  obtain ⟨x0, l1, e0, h1⟩ := cons_lenM h0; obtain ⟨x1, l2, e1, h2⟩ := cons_lenM h1; obtain ⟨x2, l3, e2, h3⟩ := cons_lenM h2; obtain ⟨x3, l4, e3, h4⟩ := cons_lenM h3; obtain ⟨x4, l5, e4, h5⟩ := cons_lenM h4; obtain ⟨x5, l6, e5, h6⟩ := cons_lenM h5; have e6 : l6 = [] := List.length_eq_zero_iff.1 h6; subst e6 e5 e4 e3 e2 e1 e0; exact ⟨x0, x1, x2, x3, x4, x5, rfl⟩
set_option maxRecDepth 10000 in
set_option maxHeartbeats 8000000 in
theorem holds_any (N : Nat) (hN : N ≤ 40) (R : Nat → Nat → Bool) (l : List (List UInt8)) (hnd : l.Nodup) (hsm : ∀ t ∈ l, t.length ≤ 8) (hl : N * l.length ≤ 12) (hl2 : l.length ≤ 1000) (f : Fm) (hf : Fine f) (g : Nat) (v u : Value) (w : World) (hF : FR w g N R) (hv : Rep w (fun _ => True) f v) (hu : SL w u l) :
    Calls Try.prog 34 #[.slice (some ⟨g, 0, none⟩) N N, v, u] w fun e w' => e = .returned (.bool (holdsB N (seeR N R) l f)) ∧ Below w.heap.size w w' := by
  have HN : Hid (N ≤ 40) := hN; have HNd : Hid (l.Nodup) := hnd; have HSm : Hid (∀ t ∈ l, t.length ≤ 8) := hsm; have HLl : Hid (N * l.length ≤ 12) := hl; have HFi : Hid (Fine f) := hf; have HFr : Hid (FR w g N R) := hF; (have HRep : Hid (Rep w (fun _ => True) f v) := hv); obtain ⟨ad, cap, rfl, h1, h2, h3⟩ := hu; have H3 : Hid (l ≠ [] → ∃ g off, ad = some ⟨g, off, none⟩ ∧ ∀ (j : Nat) (t : List UInt8), l[j]? = some t → w.cell? ⟨g, off + j, none⟩ = some (.string ⟨t.toArray⟩)) := h3; obtain ⟨k, n, ks⟩ := f; obtain ⟨sl, cp, rfl⟩ := slice_shape hv; (have hNI : (N : Int) ≤ 40 := by omega); (have hlI : (l.length : Int) ≤ 1000 := by omega); (have hlc : (l.length : Int) ≤ (cap : Int) := by omega); (obtain ⟨al, hal⟩ : ∃ al, al = bm N fun _ => true := ⟨_, rfl⟩); (have HAl : Hid (al = bm N fun _ => true) := hal); (have HBl : Hid (∀ w, Calls Try.prog 45 #[.int .i64 (N : Nat)] w fun e w' => e = .returned (.int .u64 (al : Nat)) ∧ w' = w) := fun w => by rw [hal]; exact set_below hN w); obtain ⟨q, hq⟩ : ∃ q, q = N * l.length := ⟨_, rfl⟩; (have hqI : (N : Int) * (l.length : Int) = (q : Int) := by rw [hq]; simp); (have hq12 : q ≤ 12 := by omega); (have hqb : (q : Int) ≤ 12 := by omega); obtain ⟨M, hM⟩ : ∃ M, M = 2 ^ q := ⟨_, rfl⟩; (have hM4 : M ≤ 4096 := by rw [hM]; exact Nat.le_trans (Nat.pow_le_pow_right (by omega) hq12) (by decide)); (have HMI : Hid ((M : Int) ≤ 4096) := by show _ ≤ _; omega)
  have HWr : Hid (IntKind.u64.wrap ((2 : Int) ^ q) = (M : Int)) := by
    (have e : (2 : Int) ^ q = ((2 ^ q : Nat) : Int) := by simp); show _ = _; rw [e, ← hM]; refine wraps_u64 _ (Int.natCast_nonneg _) ?_; (have : ((2 : Int) ^ 62) = 4611686018427387904 := by decide); rw [this]; omega
  (have HHB : Hid (holdsB N (seeR N R) l (.mk k n ks) = (List.range M).all fun row => (List.range N).all fun u => mtv (seeR N R) (pH N l row) (.mk k n ks) u) := by show _ = _; rw [holdsB, hM, hq]); generalize holdsB N (seeR N R) l (.mk k n ks) = HBv at *; have hmm := @run_makeMap Try.prog; obtain ⟨X0, hX0⟩ : ∃ X0, X0 = (w.alloc (.cells #[.slice (some ⟨g, 0, none⟩) N N] 68 (0, 0))).alloc (.cells #[.int .i64 k, .string n, .slice sl ks.length cp] 28 (0, 0)) := ⟨_, rfl⟩; obtain ⟨W, hW⟩ : ∃ W, W = ((X0.alloc (.cells #[.int .u64 (al : Nat)] 65 (0, 0))).alloc (.map #[] 0)).alloc (.cells #[.map (some (w.heap.size + 1 + 1 + 1))] 99 (0, 0)) := ⟨_, rfl⟩; (have hBq : X0.heap.size = w.heap.size + 1 + 1 := by rw [hX0]; simp); have hs0 : w.heap.size + 1 + 1 = w.heap.size + 2 := rfl; have HBq : Hid (w.heap.size + 1 + 1 = w.heap.size + 2) := hs0; (have HW0 : Hid (W.heap[w.heap.size]? = some (.cells #[.slice (some ⟨g, 0, none⟩) N N] 68 (0, 0))) := by rw [hW, hX0]; exact alloc_keep (alloc_keep (alloc_keep (alloc_keep (blk_new w _) _) _) _) _); (have HW1 : Hid (W.heap[w.heap.size + 1]? = some (.cells #[.int .i64 k, .string n, .slice sl ks.length cp] 28 (0, 0))) := by rw [hW, hX0]; exact alloc_keep (alloc_keep (alloc_keep (blk_secE w _ _) _) _) _)
  have HW2 : Hid (W.heap[w.heap.size + 1 + 1]? = some (.cells #[.int .u64 (al : Nat)] 65 (0, 0))) := by
    rw [hW]; have := blk_new X0 (.cells #[.int .u64 (al : Nat)] 65 (0, 0)); rw [hBq] at this; exact alloc_keep (alloc_keep this _) _
  have HW4 : Hid (W.heap[w.heap.size + 1 + 1 + 1 + 1]? = some (.cells #[.map (some (w.heap.size + 1 + 1 + 1))] 99 (0, 0))) := by
    rw [hW]; have := blk_new ((X0.alloc (.cells #[.int .u64 (al : Nat)] 65 (0, 0))).alloc (.map #[] 0)) (.cells #[.map (some (w.heap.size + 1 + 1 + 1))] 99 (0, 0)); (rw [show ((X0.alloc (.cells #[.int .u64 (al : Nat)] 65 (0, 0))).alloc (.map #[] 0)).heap.size = w.heap.size + 1 + 1 + 1 + 1 by simp [hBq]] at this); exact this
  have HPW : Hid (PM W (w.heap.size + 1 + 1 + 1) []) := by
    rw [hW]; have := (PM.nil (w := X0.alloc (.cells #[.int .u64 (al : Nat)] 65 (0, 0)))).up (below_more (Below.refl _ _) (.cells #[.map (some (w.heap.size + 1 + 1 + 1))] 99 (0, 0))); (rw [show (X0.alloc (.cells #[.int .u64 (al : Nat)] 65 (0, 0))).heap.size = w.heap.size + 1 + 1 + 1 by simp [hBq]] at this); exact this
  (have HBW : Hid (Below w.heap.size w W) := by rw [hW, hX0]; exact below_more (below_more (below_more (below_more (below_more (Below.refl _ w) _) _) _) _) _); clear hs0 hBq hal hq hM hM4 h3 h1 h2 hv hF hnd hsm hl hl2 hf hN hq12; rw [hX0] at hW; clear hX0
  go_enter Try.func34, Try.ntmps34
  go_wp2_with fail; refine (HBl.out _).mono ?_; rintro _ _ ⟨rfl, rfl⟩; go_wp2_with fail; rw [← hW]; clear hW hmm
  go_loopg [19] l.length (fun gg c wr => ∃ i, i ≤ l.length ∧ gg = l.length - i ∧ c = .int .i64 (i : Nat) ∧ Hid (Kept (· ≠ w.heap.size + 1 + 1 + 1) W wr) ∧ Hid (PM wr (w.heap.size + 1 + 1 + 1) (l.take i)))
  case atStart => exact ⟨0, by omega, by omega, rfl, Kept.refl _ _, HPW⟩
  case round =>
    obtain ⟨i, hi, hg, rfl, HKr, HPr⟩ := hrel; have HG : Hid (gk = l.length - i) := hg; clear hg; (have HP4 : Hid (wr.heap[w.heap.size + 1 + 1 + 1 + 1]? = some (.cells #[.map (some (w.heap.size + 1 + 1 + 1))] 99 (0, 0))) := (HKr.out.block _ (lt_of_block HW4.out) (by omega)).trans HW4.out); obtain ⟨c4, -⟩ := blk1 HP4.out; by_cases hlt : i < l.length
    · obtain ⟨t, ht⟩ : ∃ x, l[i]? = some x := ⟨_, List.getElem?_eq_getElem hlt⟩
      (obtain ⟨lb, off, rfl, hc⟩ := H3.out (fun e => by rw [e] at hlt; simp at hlt)); (have HBw : Hid (Below w.heap.size w wr) := HBW.out.trans (HKr.out.below HBW.out.size fun k hk => by have := HBq.out; omega)); have g0 := (HBw.out.cell (lt_of_cell (hc i t ht))).trans (hc i t ht); (have hltI : (i : Int) < (l.length : Int) := by omega); (have hltc : (i : Int) < (cap : Int) := by omega); obtain ⟨en, D, hown, hen, hh1, hh2⟩ := HPr.out; (have hkey := keyStr t (by have := HSm.out t (List.mem_of_getElem? ht); unfold maxLen; omega)); (have hti : (l.take i).length = i := by rw [List.length_take]; omega)
      have HT : Hid (l.take (i + 1) = l.take i ++ [t]) := by
        show _ = _; rw [List.take_add_one, ht]; rfl
      have HNx : Hid (∀ w', w'.ownsMap Try.prog 9 (plainElem Try.prog 3) (w.heap.size + 1 + 1 + 1) (en + 1) (D.put (.string t) (.lit (.int .i64 (i : Nat)))) → PM w' (w.heap.size + 1 + 1 + 1) (l.take (i + 1))) := fun w' h => by
        rw [HT.out]; refine PM.snoc hen hown.isMap hh1 hh2 ?_; rw [hti]; exact h
      generalize (⟨t.toArray⟩ : ByteArray) = T at *; clear hc ht hh1 hh2 HPr
      go_wp2_with (first
        | (at_mapUpdate
           (refine wpList_mapUpdate_own _ rfl _ _ _ 99 rfl 9 3 strKeyed Try.underlying99 _ (w.heap.size + 1 + 1 + 1) en _ rfl hown (by unfold maxLen; omega) _ _ _ rfl rfl hkey _ [] (plainElem_int Try.underlying3 (WalkArith.wf_i64 (by omega))) ?_); intro w1 hown1 hgrow1; have HR1 : Hid (PM w1 (w.heap.size + 1 + 1 + 1) (l.take (i + 1))) := HNx.out _ hown1; (have HR2 : Hid (Kept (· ≠ w.heap.size + 1 + 1 + 1) W w1) := HKr.out.trans (kept_grown hgrow1 fun k h e => h (by cases e; rfl)))
           clear hown1 hgrow1 hown)
        | fail)
      go_roundg (l.length - (i + 1))
      case measure => have := HG.out; omega
      case rel => exact ⟨i + 1, by omega, rfl, by go_num, HR2, HR1⟩
    · have hii : i = l.length := by omega
      subst hii; rw [List.take_length] at HPr; (have hge : ¬ (l.length : Int) < (l.length : Int) := by omega); (have HBU : Hid (Below w.heap.size w wr) := HBW.out.trans (HKr.out.below HBW.out.size fun k hk => by have := HBq.out; omega)); (have HU0 : Hid (wr.heap[w.heap.size]? = some (.cells #[.slice (some ⟨g, 0, none⟩) N N] 68 (0, 0))) := (HKr.out.block _ (lt_of_block HW0.out) (by have := HBq.out; omega)).trans HW0.out); (have HU1 : Hid (wr.heap[w.heap.size + 1]? = some (.cells #[.int .i64 k, .string n, .slice sl ks.length cp] 28 (0, 0))) := (HKr.out.block _ (lt_of_block HW1.out) (by have := HBq.out; omega)).trans HW1.out); (have HU2 : Hid (wr.heap[w.heap.size + 1 + 1]? = some (.cells #[.int .u64 (al : Nat)] 65 (0, 0))) := (HKr.out.block _ (lt_of_block HW2.out) (by omega)).trans HW2.out); obtain ⟨k0, -⟩ := blk1 HU0.out; have hwr := HWr.out; clear hlt hi; go_wp2_with fail; clear k0 hwr c4 hge; obtain ⟨U, hU⟩ : ∃ U, U = wr := ⟨_, rfl⟩; subst hU
      go_loopg [34] M (fun gg c wr => ∃ row, row ≤ M ∧ gg = M - row ∧ c = .int .u64 (row : Nat) ∧ Hid (∀ j, j < row → ∀ u, u < N → mtv (seeR N R) (pH N l j) (.mk k n ks) u = true) ∧ Hid (Below U.heap.size U wr))
      case atStart => exact ⟨0, by omega, by omega, rfl, fun j h => absurd h (Nat.not_lt_zero _), Below.refl _ _⟩
      case round =>
        obtain ⟨row, hrw, hg, rfl, HAll, HBr⟩ := hrel; have HGr : Hid (gk = M - row) := hg; clear hg; have hMI := HMI.out; by_cases hlt : row < M
        · have hltI : (row : Int) < (M : Int) := by omega
          have HRM : Hid (row < M) := hlt; (have HRw : Hid (row < 1099511627776) := by show _ < _; omega); obtain ⟨X, hX⟩ : ∃ X, wr.alloc (.cells #[.int .u64 (row : Nat)] 65 (0, 0)) = X := ⟨_, rfl⟩; (have HBXr : Hid (Below wr.heap.size wr X) := by rw [← hX]; exact below_more (Below.refl _ _) _); have HWX : Hid (Below U.heap.size U X) := below_join HBr.out HBXr.out; have HBX : Hid (Below w.heap.size w X) := below_join HBU.out HWX.out; (have HXr : Hid (X.heap[wr.heap.size]? = some (.cells #[.int .u64 (row : Nat)] 65 (0, 0))) := by rw [← hX]; exact blk_new _ _); have HX0 : Hid (X.heap[w.heap.size]? = some (.cells #[.slice (some ⟨g, 0, none⟩) N N] 68 (0, 0))) := below_keep HWX.out HU0.out; have HX1 : Hid (X.heap[w.heap.size + 1]? = some (.cells #[.int .i64 k, .string n, .slice sl ks.length cp] 28 (0, 0))) := below_keep HWX.out HU1.out; have HX2 : Hid (X.heap[w.heap.size + 1 + 1]? = some (.cells #[.int .u64 (al : Nat)] 65 (0, 0))) := below_keep HWX.out HU2.out; have HX4 : Hid (X.heap[w.heap.size + 1 + 1 + 1 + 1]? = some (.cells #[.map (some (w.heap.size + 1 + 1 + 1))] 99 (0, 0))) := below_keep HWX.out HP4.out; have HPX : Hid (PM X (w.heap.size + 1 + 1 + 1) l) := HPr.out.up HWX.out; obtain ⟨z, hz⟩ : ∃ z, z = bm N (mtv (seeR N R) (pH N l row) (.mk k n ks)) := ⟨_, rfl⟩; have HZ : Hid (z = bm N (mtv (seeR N R) (pH N l row) (.mk k n ks))) := hz
          have HOk : Hid (z = al → ∀ u, u < N → mtv (seeR N R) (pH N l row) (.mk k n ks) u = true) := fun h u hu => by
            rw [HZ.out, HAl.out] at h; exact bm_inj h u hu
          have HNo : Hid (z ≠ al → HBv = false) := fun h => by
            rw [HHB.out]; (refine List.all_eq_false.2 ⟨row, List.mem_range.2 HRM.out, fun h2 => h ?_⟩); rw [List.all_eq_true] at h2; rw [HZ.out, HAl.out]; (exact bm_ext fun u hu => h2 u (List.mem_range.2 hu))
          (have hmf : ∀ (fn : Fn) (first cap : Array Value) (w : World), (Instr.makeFunc fn first cap).run Try.prog w = .ok (.func fn first cap) w := fun _ _ _ _ => rfl); clear hlt hrw hz hMI; go_wp2_with fail; clear hmf hX; (refine wp_region_free (by kernel_rfl) [fun v _ => v = (.slice (some ⟨g, 0, none⟩) N N), fun v _ => v = (.agg #[.int .i64 k, .string n, .slice sl ks.length cp]), fun v _ => v = (.func (.func 57) #[] #[.pointer (some ⟨wr.heap.size, 0, none⟩), .pointer (some ⟨w.heap.size, 0, none⟩), .pointer (some ⟨w.heap.size + 1 + 1 + 1 + 1, 0, none⟩), .pointer (some ⟨w.heap.size + 1 + 1, 0, none⟩)]), fun v _ => v = (.int .u64 (z : Nat)), fun v _ => v = (.int .u64 (al : Nat)), fun v _ => v = .bool (((z : Nat) : Int) != ((al : Nat) : Int))] ?_ (by kernel_rfl) (by kernel_rfl) 45 rfl (by kernel_rfl) ?_ ?_)
          · intro p hp
            simp only [List.mem_cons, List.not_mem_nil, or_false] at hp
            rcases hp with rfl | rfl | rfl | rfl | rfl | rfl
            · exact fun _ _ _ h _ => h
            · exact fun _ _ _ h _ => h
            · exact fun _ _ _ h _ => h
            · exact fun _ _ _ h _ => h
            · exact fun _ _ _ h _ => h
            · exact fun _ _ _ h _ => h
          · refine ⟨?_, ?_, ?_, ?_, ?_, ?_, trivial⟩
            · intro a wx hB hold hdep K hK
              have t3 : a.tmps[3]? = some (.pointer (some ⟨w.heap.size, 0, none⟩)) := hold.2.2 3 rfl; obtain ⟨k0, -⟩ := blk1 (below_keep hB HX0.out); clear hold hdep; go_simp; exact hK.out _ _ rfl (Below.refl _ _)
            · intro a wx hB hold hdep K hK
              have t4 : a.tmps[4]? = some (.pointer (some ⟨w.heap.size + 1, 0, none⟩)) := hold.2.2 4 rfl; obtain ⟨k0, k1, k2, -⟩ := blk3 (below_keep hB HX1.out); clear hold hdep; go_simp; exact hK.out _ _ rfl (Below.refl _ _)
            · intro a wx hB hold hdep K hK
              have t12 : a.tmps[12]? = some (.func (.func 57) #[] #[.pointer (some ⟨wr.heap.size, 0, none⟩), .pointer (some ⟨w.heap.size, 0, none⟩), .pointer (some ⟨w.heap.size + 1 + 1 + 1 + 1, 0, none⟩), .pointer (some ⟨w.heap.size + 1 + 1, 0, none⟩)]) := hold.2.2 12 rfl; clear hold hdep; go_simp; exact hK.out _ _ rfl (Below.refl _ _)
            · intro a wx hB hold hdep K hK
              obtain ⟨v38, t38, p38⟩ := hdep 0 rfl _ 38 rfl rfl; have e38 : v38 = (.slice (some ⟨g, 0, none⟩) N N) := p38; subst e38; obtain ⟨v39, t39, p39⟩ := hdep 1 rfl _ 39 rfl rfl; have e39 : v39 = (.agg #[.int .i64 k, .string n, .slice sl ks.length cp]) := p39; subst e39; obtain ⟨v40, t40, p40⟩ := hdep 2 rfl _ 40 rfl rfl; have e40 : v40 = (.func (.func 57) #[] #[.pointer (some ⟨wr.heap.size, 0, none⟩), .pointer (some ⟨w.heap.size, 0, none⟩), .pointer (some ⟨w.heap.size + 1 + 1 + 1 + 1, 0, none⟩), .pointer (some ⟨w.heap.size + 1 + 1, 0, none⟩)]) := p40; subst e40
              have HW : Hid (Calls Try.prog 30 #[(.slice (some ⟨g, 0, none⟩) N N), (.agg #[.int .i64 k, .string n, .slice sl ks.length cp]), (.func (.func 57) #[] #[.pointer (some ⟨wr.heap.size, 0, none⟩), .pointer (some ⟨w.heap.size, 0, none⟩), .pointer (some ⟨w.heap.size + 1 + 1 + 1 + 1, 0, none⟩), .pointer (some ⟨w.heap.size + 1 + 1, 0, none⟩)])] wx fun e w' => e = .returned (.int .u64 (z : Nat)) ∧ Below wx.heap.size wx w') := by
                rw [HZ.out]; (exact where_any HN.out (havX HN.out l HNd.out HLl.out wr.heap.size w.heap.size (w.heap.size + 1 + 1 + 1 + 1) (w.heap.size + 1 + 1) row g HRw.out) g R (.mk k n ks) _ wx HFi.out ((HRep.out.up HBX.out).up hB) ((HFr.out.up HBX.out).up hB) ⟨w.heap.size + 1 + 1 + 1, below_keep hB HXr.out, below_keep hB HX0.out, below_keep hB HX4.out, by have := below_keep hB HX2.out; rw [HAl.out] at this; exact this, HPX.out.up hB⟩)
              clear hold hdep; go_simp; refine HW.out.mono ?_; rintro _ w9 ⟨rfl, hb9⟩; go_simp; exact hK.out _ _ rfl hb9
            · intro a wx hB hold hdep K hK
              have t7 : a.tmps[7]? = some (.pointer (some ⟨w.heap.size + 1 + 1, 0, none⟩)) := hold.2.2 7 rfl; obtain ⟨k0, -⟩ := blk1 (below_keep hB HX2.out); clear hold hdep; go_simp; exact hK.out _ _ rfl (Below.refl _ _)
            · intro a wx hB hold hdep K hK
              obtain ⟨v41, t41, p41⟩ := hdep 3 rfl _ 41 rfl rfl; have e41 : v41 = (.int .u64 (z : Nat)) := p41; subst e41; obtain ⟨v42, t42, p42⟩ := hdep 4 rfl _ 42 rfl rfl; have e42 : v42 = (.int .u64 (al : Nat)) := p42; subst e42; clear hold hdep; go_simp; exact hK.out _ _ rfl (Below.refl _ _)
          · intro a wx hB hold hgot
            obtain ⟨vA, tvA, pvA⟩ := hgot 5 _ 43 rfl rfl; have eA : vA = .bool (((z : Nat) : Int) != ((al : Nat) : Int)) := pvA; subst eA; have HBx : Hid (Below X.heap.size X wx) := hB; obtain ⟨tm, df⟩ := a; (obtain ⟨ys, hys, htm, rfl⟩ := frame_mid2 38 6 (by kernel_rfl) (Nat.le_of_ble_eq_true rfl) hold); obtain ⟨x38, x39, x40, x41, x42, x43, rfl⟩ := rowE6 ys hys; simp only [List.take_succ_cons, List.take_zero, List.drop_succ_cons, List.drop_zero, List.cons_append, List.nil_append] at htm; subst htm; obtain rfl : x43 = _ := someInjM tvA; clear hys hold hgot tvA pvA hB; by_cases hzz : z = al
            · have hne : (((z : Nat) : Int) != ((al : Nat) : Int)) = false := by simp [hzz]
              rw [hne]; go_wp2_with fail
              go_roundg (M - (row + 1))
              case measure => have := HGr.out; have := HRM.out; omega
              case rel =>
                (refine ⟨row + 1, HRM.out, rfl, u64_succ HRM.out HMI.out, fun j hj => ?_, below_join HWX.out HBx.out⟩); by_cases e : j = row
                · rw [e]; exact HOk.out hzz
                · exact HAll.out j (by omega)
            · have hne : (((z : Nat) : Int) != ((al : Nat) : Int)) = true := by rw [bne_iff_ne]; exact fun h => hzz (Int.ofNat.inj h)
              rw [hne]; go_wp2_with fail; go_ret; refine ⟨?_, below_join HBX.out HBx.out⟩; rw [HNo.out hzz]; rfl
        · have hrr : row = M := by omega
          subst hrr; (have hge : ¬ (row : Int) < (row : Int) := by omega); clear hlt hrw; go_wp2_with fail; go_ret; refine ⟨?_, below_join HBU.out HBr.out⟩
          have e : HBv = true := by
            rw [HHB.out, List.all_eq_true]; intro j hj; rw [List.all_eq_true]; (exact fun u hu => HAll.out j (List.mem_range.1 hj) u (List.mem_range.1 hu))
          rw [e]; rfl
end Go.Proofs.Ytfhbpfgbnfcdaag
