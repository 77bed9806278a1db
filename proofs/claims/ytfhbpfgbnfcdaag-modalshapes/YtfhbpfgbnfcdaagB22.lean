/- Texts of one proof, one behind the other: ME6, ME7. -/
import Derived.Test.YtfhbpfgbnfcdaagB21
import Derived.Test.YtfhbpfgbnfcdaagB12
import Derived.Test.YtfhbpfgbnfcdaagB19
/- Walks: sets as lists of bools; of each name the worlds that have it, in a map. -/
namespace Go.Proofs.Ytfhbpfgbnfcdaag
open Go.RowKit Go.Maps Go.WideMaps

set_option maxHeartbeats 2000000 in
theorem set_bools {N : Nat} (hN : N ≤ 40) (P : Nat → Bool) (w : World) :
    Calls Try.prog 32 #[.int .u64 (bm N P : Nat), .int .i64 (N : Nat)] w fun e w' => ∃ x, e = .returned x ∧ BL w' x ((List.range N).map P) ∧ Below w.heap.size w w' := by
  (have hNI : (N : Int) ≤ 40 := by omega); (obtain ⟨C, hC, hmk⟩ := make_bools N (by omega)); (have HH : Hid (∀ n, n < N → ∀ w, Calls Try.prog 51 #[.int .u64 (bm N P : Nat), .int .i64 (n : Nat)] w fun e w' => e = .returned (.bool (P n)) ∧ w' = w) := fun n hn w => set_has hN P n hn w); generalize bm N P = s at *; clear hN
  go_enter Try.func32, Try.ntmps32
  go_wp2_with fail
  go_loopg [11] N (fun gg cc wr => ∃ i D, i ≤ N ∧ gg = N - i ∧ cc = .int .i64 (i : Nat) ∧ Hid (wr.heap[w.heap.size]? = some (.cells D 4 (0, 0))) ∧ Hid (D.size = N) ∧ Hid (∀ j, j < i → D[j]? = some (.bool (P j))) ∧ Hid (Below w.heap.size w wr))
  case atStart => exact ⟨0, C, by omega, by omega, rfl, blk_new _ _, hC, fun j h => absurd h (Nat.not_lt_zero _), below_more (Below.refl _ _) _⟩
  case round =>
    obtain ⟨i, D, hi, hg, rfl, HD, HS, HP, HB⟩ := hrel; have HGk : Hid (gk = N - i) := hg; clear hg; by_cases hlt : i < N
    · have hltI : (i : Int) < (N : Int) := by omega
      have HI : Hid (i < N) := hlt; have e0 := blk_cell HD.out i; have e1 := blk_fz HD.out i; (rw [Array.getElem?_eq_getElem (by rw [HS.out]; exact hlt)] at e0); (generalize D[i]'(by rw [HS.out]; exact hlt) = old at e0); clear hlt hi; go_wp2_with fail; refine (HH.out i HI.out wr).mono ?_; rintro _ w9 ⟨rfl, e9⟩
      replace e9 := e9.symm
      subst e9; go_wp2_with fail
      go_roundg (N - (i + 1))
      case measure => have := HGk.out; have := HI.out; omega
      case rel =>
        (refine ⟨i + 1, _, HI.out, rfl, by go_num, set_cellE HD.out _, by show _ = _; rw [Array.size_setIfInBounds, HS.out], fun j hj => ?_, HB.out.setCell (p := ⟨w.heap.size, i, none⟩) (Nat.le_refl _) _⟩); by_cases e : j = i
        · subst e; rw [Array.getElem?_setIfInBounds_self_of_lt (by rw [HS.out]; exact HI.out)]
        · rw [Array.getElem?_setIfInBounds_ne (by omega)]
          (exact HP.out j (by omega))
    · have hii : i = N := by omega
      subst hii; (have hge : ¬ (i : Int) < (i : Int) := by omega); clear hlt hi; go_wp2_with fail; go_ret; (refine ⟨_, rfl, ⟨some ⟨w.heap.size, 0, none⟩, i, by simp, by simp, by unfold maxLen; omega, fun _ => ⟨w.heap.size, 0, rfl, fun j b hb => ?_⟩⟩, HB.out⟩)
      have hj : j < i := by
        rcases Nat.lt_or_ge j i with h | h
        · exact h
        · rw [List.getElem?_eq_none (by simpa using h)] at hb; cases hb
      rw [List.getElem?_map, List.getElem?_range hj] at hb; rw [Nat.zero_add, blk_cell HD.out, HP.out j hj]; simpa using hb
/-- Of each name the worlds that have it, in a map. -/
def HM (N : Nat) (w : World) (b n : Nat) (p : Nat → List UInt8 → Bool) : Prop := ∃ D : DataW Unit, w.ownsMap Try.prog 9 (plainElem Try.prog 65) b n D ∧ ∀ s : List UInt8, s.length ≤ maxLen → D.atKey (.string s) (.lit (.int .u64 0)) = .lit (.int .u64 (bm N (fun u => p u s) : Nat))
theorem zeroSet (w : World) : (zeroValue 65).run Try.prog w = .ok (.int .u64 0) w := by kernel_rfl
theorem HM.look {N : Nat} {w : World} {b n : Nat} {p : Nat → List UInt8 → Bool} (h : HM N w b n p) (t : List UInt8) (ht : t.length ≤ maxLen) : (Instr.lookup 63 (.map (some b)) (.string ⟨t.toArray⟩) false).run Try.prog w = .ok (.int .u64 (bm N (fun u => p u t) : Nat)) w := by
  obtain ⟨D, ho, hD⟩ := h; obtain ⟨c, hrun, hat, -⟩ := ho.lookup_int strKeyed Try.underlying63 Try.underlying65 (zeroSet w) (keyStr t ht); rw [hD t ht] at hat; simp only [DataW.lit.injEq, Lit.int.injEq, true_and] at hat; rw [hrun, hat]
theorem HM.nil {N : Nat} {w : World} : HM N (w.alloc (.map #[] 0)) w.heap.size 0 (fun _ _ => false) := by
  (refine ⟨.map [], World.ownsMap_made _ _ _ _, fun s _ => ?_⟩); (rw [bm_none, atKey_of_not_has (by simp [has_eq])]); rfl
theorem HM.ext {N : Nat} {w : World} {b n : Nat} {p q : Nat → List UInt8 → Bool} (h : HM N w b n p) (he : ∀ u s, u < N → p u s = q u s) : HM N w b n q := by
  obtain ⟨D, ho, hD⟩ := h; (exact ⟨D, ho, fun s hs => by rw [hD s hs, bm_ext fun u hu => he u s hu]⟩)
theorem HM.kept {N : Nat} {w w' : World} {b n : Nat} {p : Nat → List UInt8 → Bool} (h : HM N w b n p) (hb : w'.heap[b]? = w.heap[b]?) : HM N w' b n p := by
  obtain ⟨D, ho, hD⟩ := h; refine ⟨D, ?_, hD⟩; obtain ⟨es, clock, he, r⟩ := ho; exact ⟨es, clock, hb.trans he, r⟩
theorem HM.up {N : Nat} {w w' : World} {b n : Nat} {p : Nat → List UInt8 → Bool} (h : HM N w b n p) (hb : Below w.heap.size w w') : HM N w' b n p := by
  obtain ⟨D, ho, hD⟩ := h; refine ⟨D, ?_, hD⟩; obtain ⟨es, clock, he, r⟩ := ho; exact ⟨es, clock, below_keep hb he, r⟩
/-- One world more of a name. -/
theorem HM.snoc {N : Nat} {w w' : World} {b n : Nat} {p : Nat → List UInt8 → Bool} {D : DataW Unit} (ho : w.ownsMap Try.prog 9 (plainElem Try.prog 65) b n D) (hD : ∀ s : List UInt8, s.length ≤ maxLen → D.atKey (.string s) (.lit (.int .u64 0)) = .lit (.int .u64 (bm N (fun u => p u s) : Nat)))
    {t : List UInt8} {i : Nat} (h : w'.ownsMap Try.prog 9 (plainElem Try.prog 65) b (n + 1) (D.put (.string t) (.lit (.int .u64 (bm N (fun u => p u t || u == i) : Nat))))) : HM N w' b (n + 1) (fun u s => p u s || (u == i && s == t)) := by
  (have hk : WideAt.IsKeyLit (.string t) := by first | trivial | exact True.intro | simp [WideAt.IsKeyLit]); (refine ⟨_, h, fun s hs => ?_⟩); by_cases e : s = t
  · subst e
    rw [atKey_put_same ho.isMap hk]
    congr 3
    (exact bm_ext fun u _ => by simp)
  · rw [atKey_put_other (fun h => e (by injection h)), hD s hs]
    congr 3
    (exact bm_ext fun u _ => by simp [e])
/-- What Eval's closure reads. -/
def OkH (N cb : Nat) (p : Nat → List UInt8 → Bool) (w : World) : Prop := ∃ b n, w.heap[cb]? = some (.cells #[.map (some b)] 63 (0, 0)) ∧ HM N w b n p
set_option maxHeartbeats 1000000 in
theorem eval1_any {N : Nat} (cb : Nat) (p : Nat → List UInt8 → Bool) (n : ByteArray) (w : World) (hok : OkH N cb p w) (hn : n.size ≤ 8) :
    Calls Try.prog 31 (#[.string n] ++ #[.pointer (some ⟨cb, 0, none⟩)]) w fun e w' => e = .returned (.int .u64 (bm N (fun u => p u n.data.toList) : Nat)) ∧ Below w.heap.size w w' := by
  obtain ⟨b, k, hcb, hm⟩ := hok; obtain ⟨t, rfl⟩ : ∃ t : List UInt8, n = ⟨t.toArray⟩ := ⟨n.data.toList, rfl⟩; (have hl8 : t.length ≤ 8 := by simpa [ByteArray.size] using hn); (have hlk := hm.look t (by unfold maxLen; omega)); obtain ⟨c1, -⟩ := blk1 hcb; have he : ((⟨t.toArray⟩ : ByteArray).data.toList) = t := rfl; rw [he]; generalize (⟨t.toArray⟩ : ByteArray) = T at *; (generalize bm N (fun u => p u t) = s at *); clear hcb hm; show Calls Try.prog 31 #[.string T, .pointer (some ⟨cb, 0, none⟩)] w _
  go_enter Try.func31, Try.ntmps31
  go_wp2_with fail; go_ret; exact ⟨rfl, Below.refl _ _⟩
theorem eval1_in (cap : Array Value) (w : World) : (callFunc 31 cap).run Try.prog w = .ok (.enter 31 cap) w := by
  simp [go_sem]
theorem havE {N : Nat} (cb : Nat) (p : Nat → List UInt8 → Bool) : Hav N 31 #[.pointer (some ⟨cb, 0, none⟩)] p (OkH N cb p) where
  up := fun ⟨b, n, h1, h2⟩ hb => ⟨b, n, below_keep hb h1, h2.up hb⟩
  ent := fun _ w => eval1_in _ w
  call := fun n w hok hn => eval1_any cb p n w hok hn
end Go.Proofs.Ytfhbpfgbnfcdaag
/- Walks: what is wrong with a model or a formula first. -/
namespace Go.Proofs.Ytfhbpfgbnfcdaag
open Go.RowKit

/-- What is wrong with a model, or else with a formula. -/
def mfcode (m : Mdl) (f : Fm) : Int × Int := if (mdcode 40 2000 m).1 = 0 then f.code else mdcode 40 2000 m
set_option maxHeartbeats 2000000 in
theorem firstFault_any (m : Mdl) (f : Fm) (v u : Value) (w : World) (hv : MR w m v) (hu : Rep w (fun _ => True) f u) :
    Calls Try.prog 27 #[v, u] w fun e w' => e = .returned (.agg #[.int .i64 (mfcode m f).1, .int .i64 (mfcode m f).2]) ∧ Below w.heap.size w w' := by
  (have HK : Hid (∀ w, MR w m v → Calls Try.prog 35 #[v] w _) := fun w h => kCheck_any m v w h); (have HC : Hid (∀ w, Rep w (fun _ => True) f u → Calls Try.prog 44 #[u] w _) := fun w h => check_any f u w h); (have HE : Hid (((mdcode 40 2000 m).1 = 0 → mfcode m f = f.code) ∧ ((mdcode 40 2000 m).1 ≠ 0 → mfcode m f = mdcode 40 2000 m)) := ⟨fun h => if_pos h, fun h => if_neg h⟩); have HV : Hid (MR w m v) := hv; (have HU : Hid (Rep w (fun _ => True) f u) := hu); obtain ⟨ra, rc, ta, tc, rfl, -⟩ := hv; obtain ⟨k, n, ks⟩ := f; obtain ⟨sl, cp, rfl⟩ := slice_shape hu; generalize mdcode 40 2000 m = md at *; generalize (Fm.mk k n ks).code = fd at *; generalize mfcode m (.mk k n ks) = r at *; obtain ⟨c, a⟩ := md; obtain ⟨fc, fa⟩ := fd; obtain ⟨W, hW⟩ : ∃ W, W = ((w.alloc (.cells #[.int .i64 m.n, .slice ra m.rel.length rc, .slice ta m.tr.length tc] 25 (0, 0))).alloc (.cells #[.int .i64 k, .string n, .slice sl ks.length cp] 28 (0, 0))).alloc (.cells #[.int .i64 0, .int .i64 0] 34 (0, 0)) := ⟨_, rfl⟩; (have HB0 : Hid (Below w.heap.size w W) := by rw [hW]; exact below_more (below_more (below_more (Below.refl _ w) _) _) _); obtain ⟨b1, b2, b3⟩ := blk_threeM w (.cells #[.int .i64 m.n, .slice ra m.rel.length rc, .slice ta m.tr.length tc] 25 (0, 0)) (.cells #[.int .i64 k, .string n, .slice sl ks.length cp] 28 (0, 0)) (.cells #[.int .i64 0, .int .i64 0] 34 (0, 0)); rw [← hW] at b1 b2 b3; have HQ2 : Hid (W.heap[w.heap.size + 2]? = some (.cells #[.int .i64 0, .int .i64 0] 34 (0, 0))) := b3; have HQ1 : Hid (W.heap[w.heap.size + 1]? = some (.cells #[.int .i64 k, .string n, .slice sl ks.length cp] 28 (0, 0))) := b2; clear b1 b2 b3 hu
  go_enter Try.func27, Try.ntmps27
  go_wp2_with fail; rw [← hW]; refine (HK.out _ (HV.out.up HB0.out)).mono ?_; rintro _ w1 ⟨rfl, hb1⟩; have HB1 : Hid (Below w.heap.size w w1) := below_join HB0.out hb1; have HR1 : Hid (w1.heap[w.heap.size + 2]? = some (.cells #[.int .i64 0, .int .i64 0] 34 (0, 0))) := below_keep hb1 HQ2.out; have HF1 : Hid (w1.heap[w.heap.size + 1]? = some (.cells #[.int .i64 k, .string n, .slice sl ks.length cp] 28 (0, 0))) := below_keep hb1 HQ1.out; clear hb1 hW; obtain ⟨X, hX⟩ : ∃ X, w1.alloc (.cells #[.int .i64 c, .int .i64 a] 34 (0, 0)) = X := ⟨_, rfl⟩; (have HXr : Hid (X.heap[w.heap.size + 1 + 1]? = some (.cells #[.int .i64 0, .int .i64 0] 34 (0, 0))) := by rw [← hX]; exact alloc_keep HR1.out _); obtain ⟨q20, q21, q22, q23⟩ := blk2 HXr.out; (obtain ⟨q10, q11, q12, -⟩ := blk3 (show X.heap[w.heap.size + 1]? = some _ by rw [← hX]; exact alloc_keep HF1.out _)); (obtain ⟨q30, q31, -⟩ := blk2 (show X.heap[w1.heap.size]? = some _ by rw [← hX]; exact blk_new _ _)); (have HBX : Hid (Below w.heap.size w X) := by rw [← hX]; exact below_more HB1.out _); by_cases h0 : c = 0
  · subst h0
    have HR := HE.out.1 rfl; subst HR; go_wp2_with fail; refine (HC.out _ (HU.out.up HBX.out)).mono ?_; rintro _ w2 ⟨rfl, hb2⟩; have HY : Hid (w2.heap[w.heap.size + 1 + 1]? = some (.cells #[.int .i64 0, .int .i64 0] 34 (0, 0))) := below_keep hb2 HXr.out; have HB2 : Hid (Below w.heap.size w w2) := below_join HBX.out hb2; clear hb2 q20 q21 q22 q23 q10 q11 q12 q30 q31 hX; obtain ⟨q20, q21, q22, q23⟩ := blk2 HY.out; go_wp2_with fail; have f2 := set2 HY.out (.int .i64 fc) (.int .i64 fa); (have b2 := (HB2.out.setCell (p := ⟨w.heap.size + 1 + 1, 0, none⟩) (by simp; omega) (.int .i64 fc)).setCell (p := ⟨w.heap.size + 1 + 1, 1, none⟩) (by simp; omega) (.int .i64 fa)); generalize World.setCell _ _ _ = F at f2 b2 ⊢; clear q20 q21 q22 q23; obtain ⟨o1, o2, -⟩ := blk2 f2; (exact bodyPost_ret (v := .agg #[.int .i64 fc, .int .i64 fa]) (by simp [results, Try.results27, go_sem, o1, o2]) rfl ⟨rfl, b2⟩)
  · have HR := HE.out.2 h0
    subst HR; go_wp2_with fail; have f2 := set2 HXr.out (.int .i64 c) (.int .i64 a); (have b2 := (HBX.out.setCell (p := ⟨w.heap.size + 1 + 1, 0, none⟩) (by simp; omega) (.int .i64 c)).setCell (p := ⟨w.heap.size + 1 + 1, 1, none⟩) (by simp; omega) (.int .i64 a)); generalize World.setCell _ _ _ = F at f2 b2 ⊢; clear q20 q21 q22 q23; obtain ⟨o1, o2, -⟩ := blk2 f2; (exact bodyPost_ret (v := .agg #[.int .i64 c, .int .i64 a]) (by simp [results, Try.results27, go_sem, o1, o2]) rfl ⟨rfl, b2⟩)
end Go.Proofs.Ytfhbpfgbnfcdaag
