/- Texts of one proof, one behind the other: XM3, XM4, XM5, XP1, XP2, XP3, XP4. -/
import Derived.Test.YtffkoiemnchdgaeB40
import Derived.Test.YtffkoiemnchdgaeB38
import Derived.Test.YtffkoiemnchdgaeB15
import Derived.Test.YtffkoiemnchdgaeB09
import Derived.Test.YtffkoiemnchdgaeB18
import Derived.Test.YtffkoiemnchdgaeB36
import Derived.Test.YtffkoiemnchdgaeB11
import Derived.Deep.RegionLaw
import Derived.Test.YtffkoiemnchdgaeB06
import Derived.Test.YtffkoiemnchdgaeB39
/- Cuts: the walk of eachStep, with what Measure does. -/
namespace Go.Proofs.Ytffkoiemnchdgae
open Go.RowKit

theorem vis_in (args : Array Value) (w : World) : (callFunc 33 args).run Try.prog w = .ok (.enter 33 args) w := by
  simp [go_sem]
theorem KB3.trans {bs bd br : Nat} {a b c : World} (h : KB3 bs bd br a b) (k : KB3 bs bd br b c) : KB3 bs bd br a c := Kept.trans h k
theorem KB3.base {bs bd br : Nat} {w0 w w' : World} (h : Below w0.heap.size w0 w) (hB : w0.heap.size ≤ bs ∧ w0.heap.size ≤ bd ∧ w0.heap.size ≤ br) (k : KB3 bs bd br w w') : Below w0.heap.size w0 w' :=
  ⟨k.os.trans h.os, k.tape.trans h.tape, k.output.trans h.output, Nat.le_trans h.size k.size, fun b hb => (k.block b (Nat.lt_of_lt_of_le hb h.size) ⟨by omega, by omega, by omega⟩).trans (h.block b hb)⟩
/-- What eachStep is asked for. -/
def EachP (bs bd br : Nat) (m : Nat) : Prop := ∀ (p : Pf) (v : Value) (w0 w : World) (d : Nat) (s : Nat × Nat × Nat), p.size < m → SmallP p → PRep w0 p v → Below w0.heap.size w0 w → (w0.heap.size ≤ bs ∧ w0.heap.size ≤ bd ∧ w0.heap.size ≤ br) → M3 w bs bd br s → s.1 + (p.nodesD d).length ≤ 20001 → s.2.1 ≤ 402 → s.2.2 ≤ 1000 → (∀ x ∈ p.nodesD d, x.2 ≤ 402) → (∀ x ∈ p.nodesD d, x.1.rule.data.toList = cutT → x.1.f.size ≤ 1000) →
  Calls Try.prog 32 #[v, .int .i64 (d : Nat), .func (.func 33) #[] #[.pointer (some ⟨bs, 0, none⟩), .pointer (some ⟨bd, 0, none⟩), .pointer (some ⟨br, 0, none⟩)]] w fun e w' => e = .returned (.tuple #[]) ∧ M3 w' bs bd br (mlist (p.nodesD d) s) ∧ KB3 bs bd br w w'

set_option maxRecDepth 10000 in
set_option maxHeartbeats 4000000 in
theorem eachP_step (bs bd br : Nat) (h1 : bs ≠ bd) (h2 : bs ≠ br) (h3 : bd ≠ br) (m : Nat) (ih : EachP bs bd br m) : EachP bs bd br (m + 1) := by
  intro p v w0 w d s hm hsm hv hw0 hB hM hb1 hb2 hb3 hx1 hx2; obtain ⟨a, ⟨k, n, kf⟩, l, r, ks⟩ := p; have HV : Hid (PRep w0 (.mk a (.mk k n kf) l r ks) v) := hv; obtain ⟨sf, cf, al, cl, ar, cr, sl, cap, rfl, -, -, -, -, hkc, hcm, hks⟩ := hv.parts; have HKS : Hid (ks ≠ [] → ∃ b off, sl = some ⟨b, off, none⟩ ∧ PReps w0 b off ks) := hks; have HIH : Hid (EachP bs bd br m) := ih; have HSm : Hid (∀ k ∈ ks, SmallP k) := hsm.parts.2.2.2; have hk12 := hsm.parts.2.2.1; rw [Pf.size] at hm; rw [Pf.nodesD] at hb1 hx1 hx2; rw [Pf.nodesD, mlist]; (have hd402 : d ≤ 402 := hx1 (.mk a (.mk k n kf) l r ks, d) (by simp)); (have hf0 := hx2 (.mk a (.mk k n kf) l r ks, d) (by simp)); (have hb1' : s.1 + 1 + (Pf.nodesDL ks (d + 1)).length ≤ 20001 := by rw [List.length_cons] at hb1; omega); (have HVis : Hid (∀ W, Below w0.heap.size w0 W → M3 W bs bd br s → Calls Try.prog 33 #[.agg #[.string a, .int .i64 k, .string n, .slice sf kf.length cf, .slice al l.length cl, .slice ar r.length cr, .slice sl ks.length cap], .int .i64 (d : Nat), .pointer (some ⟨bs, 0, none⟩), .pointer (some ⟨bd, 0, none⟩), .pointer (some ⟨br, 0, none⟩)] W fun e w' => e = .returned (.tuple #[]) ∧ M3 w' bs bd br (mstep (.mk a (.mk k n kf) l r ks, d) s) ∧ KB3 bs bd br W w') := fun W hb hm => vis_any _ _ w0 W d bs bd br s HV.out hb hB hm h1 h2 h3 (by omega) (by omega) (by omega) (by omega) hf0); have hs1 : (mstep (.mk a (.mk k n kf) l r ks, d) s).1 = s.1 + 1 := rfl; (have hs2 : (mstep (.mk a (.mk k n kf) l r ks, d) s).2.1 ≤ 402 := by show max s.2.1 d ≤ 402; omega)
  have hs3 : (mstep (.mk a (.mk k n kf) l r ks, d) s).2.2 ≤ 1000 := by
    (show (if a.data.toList = cutT then max s.2.2 (Fm.mk k n kf).size else s.2.2) ≤ 1000)
    split
    · rename_i e; have : (Fm.mk k n kf).size ≤ 1000 := hf0 e; omega
    · exact hb3
  generalize mstep (.mk a (.mk k n kf) l r ks, d) s = S at *; (have HX : Hid ((∀ x ∈ Pf.nodesDL ks (d + 1), x.2 ≤ 402) ∧ (∀ x ∈ Pf.nodesDL ks (d + 1), x.1.rule.data.toList = cutT → x.1.f.size ≤ 1000)) := ⟨fun x hx => hx1 x (by simp [hx]), fun x hx => hx2 x (by simp [hx])⟩); (have HS : Hid (S.1 + (Pf.nodesDL ks (d + 1)).length ≤ 20001 ∧ S.2.1 ≤ 402 ∧ S.2.2 ≤ 1000) := ⟨by omega, hs2, hs3⟩); have HB : Hid (w0.heap.size ≤ bs ∧ w0.heap.size ≤ bd ∧ w0.heap.size ≤ br) := hB; have HW0 : Hid (Below w0.heap.size w0 w) := hw0; have HM : Hid (M3 w bs bd br s) := hM; (have HMm : Hid (Pf.sizes ks < m) := by show _ < _; omega); (have hkI : (ks.length : Int) ≤ 1200 := by omega); (have hkcI : (ks.length : Int) ≤ (cap : Int) := by omega); (have hdI : (d : Int) ≤ 402 := by omega); have hcf := vis_in; have HBa : Hid (Below w.heap.size w (w.alloc (.cells #[.string a, .int .i64 k, .string n, .slice sf kf.length cf, .slice al l.length cl, .slice ar r.length cr, .slice sl ks.length cap] 29 (0, 0)))) := below_more (Below.refl _ w) _; have HBox : Hid ((w.alloc (.cells #[.string a, .int .i64 k, .string n, .slice sf kf.length cf, .slice al l.length cl, .slice ar r.length cr, .slice sl ks.length cap] 29 (0, 0))).heap[w.heap.size]? = some (.cells #[.string a, .int .i64 k, .string n, .slice sf kf.length cf, .slice al l.length cl, .slice ar r.length cr, .slice sl ks.length cap] 29 (0, 0))) := blk_new w _; (have hnb : w.heap.size ≠ bs ∧ w.heap.size ≠ bd ∧ w.heap.size ≠ br := ⟨by have := lt_of_block hM.s; omega, by have := lt_of_block hM.d; omega, by have := lt_of_block hM.r; omega⟩); have HNb : Hid (w.heap.size ≠ bs ∧ w.heap.size ≠ bd ∧ w.heap.size ≠ br) := hnb; clear hv hks ih hsm hk12 hm hw0 hB hM hb1 hb2 hb3 hx1 hx2 hf0 hb1' hs1 hs2 hs3 hd402 hnb h1 h2 h3
  go_enter Try.func32, Try.ntmps32
  go_wp2_with fail; refine (HVis.out _ (below_join HW0.out HBa.out) (HM.out.up HBa.out)).mono ?_; rintro e w1 ⟨rfl, hm1, hk1⟩; have HM1 : Hid (M3 w1 bs bd br S) := hm1; have HB1 : Hid (Below w0.heap.size w0 w1) := KB3.base (below_join HW0.out HBa.out) HB.out hk1; have HQ1 : Hid (w1.heap[w.heap.size]? = some (.cells #[.string a, .int .i64 k, .string n, .slice sf kf.length cf, .slice al l.length cl, .slice ar r.length cr, .slice sl ks.length cap] 29 (0, 0))) := (hk1.block w.heap.size (lt_of_block HBox.out) HNb.out).trans HBox.out; (have HK1 : Hid (KB3 bs bd br w w1) := KB3.trans (kept_of_below HBa.out fun _ h _ => h) hk1); clear hm1 hk1 HVis HBa HBox HM HW0; obtain ⟨-, -, -, -, -, -, c6⟩ := blk7 HQ1.out; have y1 := lt_of_block HQ1.out; go_wp2_with fail; clear c6
  go_loopg [15] ks.length (fun g c wr => ∃ i, i ≤ ks.length ∧ g = ks.length - i ∧ c = .int .i64 (i : Nat) ∧ Hid (M3 wr bs bd br (mlist (Pf.nodesDL (ks.take i) (d + 1)) S)) ∧ Hid (KB3 bs bd br w wr) ∧ Hid (Below w0.heap.size w0 wr))
  case atStart => exact ⟨0, by omega, by omega, rfl, by show M3 _ _ _ _ _; rw [List.take_zero, Pf.nodesDL]; exact HM1.out, HK1, HB1⟩
  case round =>
    obtain ⟨i, hi, hg, rfl, HMr, HKr, HBr⟩ := hrel; have HG : Hid (gk = ks.length - i) := hg; clear hg; by_cases hlt : i < ks.length
    · obtain ⟨⟨ka, ⟨kk, kn, kkf⟩, kl, kr, kks⟩, hki⟩ : ∃ f, ks[i]? = some f := ⟨_, List.getElem?_eq_getElem hlt⟩
      (have hltI : (i : Int) < (ks.length : Int) := by omega); (obtain ⟨b, off, hsl, hrs⟩ := HKS.out (fun e => by rw [e] at hlt; simp at hlt)); subst hsl; obtain ⟨sf2, cf2, al2, cl2, ar2, cr2, sl2, cap2, y0, y2, y3, y4, y5, y6, y7, hrep2⟩ := (PReps.up HBr.out b off ks hrs).at i ka kk kn kkf kl kr kks hki; have hrep0 := hrep2; obtain ⟨sf3, cf3, al3, cl3, ar3, cr3, sl3, cap3, z0, z2, z3, z4, z5, z6, z7, hrep3⟩ := hrs.at i ka kk kn kkf kl kr kks hki; (have hlc : ((i : Nat) : Int) < ((cap : Nat) : Int) := by omega)
      have hsame : ∀ (q : Addr) (u u' : Value), q.block < w0.heap.size → w0.cell? q = some u → wr.cell? q = some u' → u = u' := fun q u u' hq h h' => by
        have := (HBr.out.cell (p := q) hq).trans h; rw [this] at h'; exact Option.some.inj h'
      have hbw : b < w0.heap.size := lt_of_cell z0; have e3 := hsame _ _ _ hbw z4 y4; have e4 := hsame _ _ _ hbw z5 y5; have e5 := hsame _ _ _ hbw z6 y6; have e6 := hsame _ _ _ hbw z7 y7; simp only [Value.slice.injEq, true_and] at e3 e4 e5 e6; obtain ⟨rfl, rfl⟩ := e3; obtain ⟨rfl, rfl⟩ := e4; obtain ⟨rfl, rfl⟩ := e5; obtain ⟨rfl, rfl⟩ := e6; have ht := nodesDL_take hki (d + 1); have hl := nodesDL_len hki (d + 1); have hfs := mlist_fst (Pf.nodesDL (ks.take i) (d + 1)) S
      have htk : ∀ x ∈ Pf.nodesDL (ks.take i) (d + 1), x ∈ Pf.nodesDL ks (d + 1) := fun x hx => by
        have e : ks = ks.take i ++ ks.drop i := (List.take_append_drop _ _).symm; rw [e, nodesDL_append]; simp [hx]
      (have hdp := mlist_deep (Pf.nodesDL (ks.take i) (d + 1)) S 402 HS.out.2.1 fun x hx => HX.out.1 x (htk x hx)); (have hrk := mlist_rank (Pf.nodesDL (ks.take i) (d + 1)) S 1000 HS.out.2.2 fun x hx => HX.out.2 x (htk x hx)); have hba := below_more (Below.refl wr.heap.size wr) (.cells #[.string ka, .int .i64 kk, .string kn, .slice sf3 kkf.length cf3, .slice al3 kl.length cl3, .slice ar3 kr.length cr3, .slice sl3 kks.length cap3] 29 (0, 0)); (have hc := HIH.out _ _ w0 _ (d + 1) _ (Nat.lt_of_le_of_lt (pfsizes_get hki) HMm.out) (HSm.out _ (List.mem_of_getElem? hki)) hrep3 (below_join HBr.out hba) HB.out (HMr.out.up hba) (by have := HS.out; omega) hdp hrk (fun x hx => HX.out.1 x (nodesDL_mem hki _ hx)) (fun x hx => HX.out.2 x (nodesDL_mem hki _ hx))); rw [← mlist_append, ← ht] at hc; have HC : Hid (Calls Try.prog 32 _ _ _) := hc; have HBw : Hid (Below wr.heap.size wr _) := hba; have HI : Hid (i < ks.length) := hlt; clear hki hrs hrep2 hrep3 hrep0 hc ht hl hfs htk hdp hrk hba hsame z0 z2 z3 z4 z5 z6 z7 hbw hlt hi; go_wp2_with fail; refine HC.out.mono ?_; rintro e w2 ⟨rfl, hm2, hk2⟩; (have HK2 : Hid (KB3 bs bd br w w2) := KB3.trans (KB3.trans HKr.out (kept_of_below HBw.out fun _ h _ => h)) hk2); have HB2 : Hid (Below w0.heap.size w0 w2) := KB3.base (below_join HBr.out HBw.out) HB.out hk2; have HM2 : Hid (M3 w2 bs bd br _) := hm2; clear hm2 hk2 HC y0 y2 y3 y4 y5 y6 y7; go_wp2_with fail
      go_roundg (ks.length - (i + 1))
      case measure => have := HG.out; have := HI.out; omega
      case rel => exact ⟨i + 1, HI.out, rfl, by go_num, HM2, HK2, HB2⟩
    · have hii : i = ks.length := by omega
      subst hii; (have hge : ¬ (ks.length : Int) < (ks.length : Int) := by omega); have hmr := HMr.out; rw [List.take_length] at hmr; have HM9 : Hid (M3 wr bs bd br (mlist (Pf.nodesDL ks (d + 1)) S)) := hmr; clear hlt hi hmr; go_wp2_with fail
      go_end0
      exact ⟨rfl, HM9.out, HKr.out⟩
theorem eachP_all (bs bd br : Nat) (h1 : bs ≠ bd) (h2 : bs ≠ br) (h3 : bd ≠ br) : ∀ m, EachP bs bd br m
  | 0 => fun _ _ _ _ _ _ h => absurd h (Nat.not_lt_zero _)
  | m + 1 => eachP_step bs bd br h1 h2 h3 m (eachP_all bs bd br h1 h2 h3 m)
end Go.Proofs.Ytffkoiemnchdgae
/- Cuts: the walk of Measure. -/
namespace Go.Proofs.Ytffkoiemnchdgae
open Go.RowKit

theorem pc_fineX {f : Fm} (h : f.pcode.1 = 0) : Fine f ∧ f.size ≤ 200 := by
  obtain ⟨s, hs⟩ := (pcode_ok h).1; exact ⟨fine_of_chk _ 0 s hs, chk_size hs⟩
theorem scan_ok (i : Bool) : ∀ (L : List (Pf × Nat)) (s : Nat), (scan i L s).1 = 0 → s ≤ 20000 → s + L.length ≤ 20000 ∧ ∀ x ∈ L, x.2 ≤ 400 ∧ stepC i x.1 = 0
  | [], s, _, hs => ⟨by simpa using hs, fun x hx => by cases hx⟩
  | y :: L, s, h, hs => by
    rw [scan] at h
    split at h
    · cases h
    · rename_i h1
      split at h
      · rename_i h2; exact absurd h h2
      · rename_i h2
        (obtain ⟨g1, g2⟩ := scan_ok i L (s + 1) h (by omega)); (refine ⟨by rw [List.length_cons]; omega, fun x hx => ?_⟩)
        rcases List.mem_cons.1 hx with rfl | hx
        · exact ⟨by omega, by simpa using h2⟩
        · exact g2 x hx
theorem stepC_cut {i : Bool} {x : Pf} (h : stepC i x = 0) (hr : x.rule.data.toList = cutT) : x.f.pcode.1 = 0 := by
  obtain ⟨a, f, l, r, ks⟩ := x; have hr : a.data.toList = cutT := hr; rw [stepC] at h
  split at h
  · cases h
  · rw [hr] at h
    (rw [if_neg (by decide)] at h); (have e : ruleOf i cutT = some .cut := by cases i <;> decide); rw [e] at h; simp only at h
    split at h
    · cases h
    · rename_i h2; exact Decidable.not_not.1 h2
theorem look_nodes {i : Bool} {p : Pf} (h : (look i p 1 0 0).1.1 = 0) : (p.nodesD 1).length ≤ 20000 ∧ ∀ x ∈ p.nodesD 1, x.2 ≤ 400 ∧ stepC i x.1 = 0 := by
  have h1 := look_scan i p 1 0 0 []; (rw [List.append_nil, if_neg (fun e => e h)] at h1); (have h2 : (scan i (p.nodesD 1) 0).1 = 0 := by rw [h1, scan]); (have := scan_ok i _ 0 h2 (by omega)); (exact ⟨by omega, this.2⟩)
/-- What Measure answers. -/
def meas (i : Bool) (p : Pf) : Nat × Nat × Nat := if (look i p 1 0 0).1.1 ≠ 0 then (0, 0, 0) else mlist (p.nodesD 1) (0, 0, 0)
def measA (i : Bool) (p : Pf) : Int := if (look i p 1 0 0).1.1 ≠ 0 then (look i p 1 0 0).1.2 else 0

/-- Three numbers and a fault are put into their blocks. -/
def fin7 (W : World) (bS bD bR bF : Nat) (n d r c a : Value) : World := ((((W.setCell ⟨bS, 0, none⟩ n).setCell ⟨bD, 0, none⟩ d).setCell ⟨bR, 0, none⟩ r).setCell ⟨bF, 0, none⟩ c).setCell ⟨bF, 1, none⟩ a
theorem set_far {W : World} {b x i : Nat} (h : x ≠ b) (v : Value) : (W.setCell ⟨b, i, none⟩ v).heap[x]? = W.heap[x]? := Below.heap_setCell _ _ _ _ (by simpa using h)
theorem fin7_at {W : World} {bS bD bR bF : Nat} {x0 x1 x2 x3 x4 : Value} {T U : TypeId} (n1 : bS ≠ bD) (n2 : bS ≠ bR) (n3 : bD ≠ bR) (n4 : bF ≠ bS) (n5 : bF ≠ bD) (n6 : bF ≠ bR) (h1 : W.heap[bS]? = some (.cells #[x0] T (0, 0))) (h2 : W.heap[bD]? = some (.cells #[x1] T (0, 0))) (h3 : W.heap[bR]? = some (.cells #[x2] T (0, 0))) (h4 : W.heap[bF]? = some (.cells #[x3, x4] U (0, 0))) (n d r c a : Value) :
    (fin7 W bS bD bR bF n d r c a).heap[bS]? = some (.cells #[n] T (0, 0)) ∧ (fin7 W bS bD bR bF n d r c a).heap[bD]? = some (.cells #[d] T (0, 0)) ∧ (fin7 W bS bD bR bF n d r c a).heap[bR]? = some (.cells #[r] T (0, 0)) ∧ (fin7 W bS bD bR bF n d r c a).heap[bF]? = some (.cells #[c, a] U (0, 0)) := by
  unfold fin7; refine ⟨?_, ?_, ?_, ?_⟩
  · rw [set_far n4.symm, set_far n4.symm, set_far n2, set_far n1]
    exact set1 h1 _
  · rw [set_far n5.symm, set_far n5.symm, set_far n3]
    exact set1 ((set_far n1.symm _).trans h2) _
  · rw [set_far n6.symm, set_far n6.symm]
    exact set1 ((set_far n3.symm _).trans ((set_far n2.symm _).trans h3)) _
  · exact set2 ((set_far n6 _).trans ((set_far n5 _).trans ((set_far n4 _).trans h4))) _ _
theorem fin7_below {w W : World} {bS bD bR bF : Nat} (h1 : w.heap.size ≤ bS) (h2 : w.heap.size ≤ bD) (h3 : w.heap.size ≤ bR) (h4 : w.heap.size ≤ bF) (B : Below w.heap.size w W) (n d r c a : Value) : Below w.heap.size w (fin7 W bS bD bR bF n d r c a) :=
  ((((B.setCell (by simpa using h1) _).setCell (by simpa using h2) _).setCell (by simpa using h3) _).setCell (by simpa using h4) _).setCell (by simpa using h4) _

set_option maxRecDepth 10000 in
set_option maxHeartbeats 8000000 in
theorem measure_any (i : Bool) (p : Pf) (hsm : SmallP p) (v : Value) (w : World) (hv : PRep w p v) :
    Calls Try.prog 10 #[v, .bool i] w fun e w' => e = .returned (.tuple #[.int .i64 ((meas i p).1 : Nat), .int .i64 ((meas i p).2.1 : Nat), .int .i64 ((meas i p).2.2 : Nat), .agg #[.int .i64 (look i p 1 0 0).1.1, .int .i64 (measA i p)]]) ∧ Below w.heap.size w w' := by
  (have HCh : Hid (∀ W, Below w.heap.size w W → Calls Try.prog 31 #[v, .bool i] W fun e w' => e = .returned (.agg #[.int .i64 (look i p 1 0 0).1.1, .int .i64 (measA i p)]) ∧ Below W.heap.size W w') := fun W hb => pcheck_any i p hsm v W (PRep.up hb _ _ hv))
  have HE : Hid ((look i p 1 0 0).1.1 = 0 → ∀ W bs bd br, Below w.heap.size w W → bs ≠ bd → bs ≠ br → bd ≠ br → (w.heap.size ≤ bs ∧ w.heap.size ≤ bd ∧ w.heap.size ≤ br) → M3 W bs bd br (0, 0, 0) → Calls Try.prog 32 #[v, .int .i64 1, .func (.func 33) #[] #[.pointer (some ⟨bs, 0, none⟩), .pointer (some ⟨bd, 0, none⟩), .pointer (some ⟨br, 0, none⟩)]] W fun e w' => e = .returned (.tuple #[]) ∧ M3 w' bs bd br (meas i p) ∧ KB3 bs bd br W w') := fun h0 W bs bd br hb n1 n2 n3 hB hm => by
    (have hm9 : meas i p = mlist (p.nodesD 1) (0, 0, 0) := by unfold meas; rw [if_neg (fun e => e h0)]); rw [hm9]; have hn := look_nodes h0; (exact eachP_all bs bd br n1 n2 n3 (p.size + 1) p v w W 1 (0, 0, 0) (Nat.lt_succ_self _) hsm hv hb hB hm (by simp only; omega) (by simp) (by simp) (fun x hx => by have := (hn.2 x hx).1; omega) (fun x hx hr => by have := (pc_fineX (stepC_cut (hn.2 x hx).2 hr)).2; omega))
  (have HZ : Hid ((look i p 1 0 0).1.1 ≠ 0 → meas i p = (0, 0, 0)) := fun h => by unfold meas; rw [if_pos h]); (have HA : Hid ((look i p 1 0 0).1.1 = 0 → measA i p = 0) := fun h => by unfold measA; rw [if_neg (fun e => e h)]); generalize (look i p 1 0 0).1.1 = c at *; generalize measA i p = at9 at *; generalize meas i p = M at *; obtain ⟨M1, M2, M3v⟩ := M; simp only; obtain ⟨a, ⟨k, n, kf⟩, l, r, ks⟩ := p; obtain ⟨sf, cf, al, cl, ar, cr, sl, cap, rfl, -⟩ := hv.parts; obtain ⟨O, hO⟩ : ∃ O, O = Obj.cells #[.string a, .int .i64 k, .string n, .slice sf kf.length cf, .slice al l.length cl, .slice ar r.length cr, .slice sl ks.length cap] 29 (0, 0) := ⟨_, rfl⟩; have B0 : Below w.heap.size w (((((w.alloc O).alloc (.cells #[.int .i64 0] 3 (0, 0))).alloc (.cells #[.int .i64 0] 3 (0, 0))).alloc (.cells #[.int .i64 0] 3 (0, 0))).alloc (.cells #[.int .i64 0, .int .i64 0] 33 (0, 0))) := below_more (below_more (below_more (below_more (below_more (Below.refl _ w) _) _) _) _) _; obtain ⟨X, hX⟩ : ∃ X, X = ((((w.alloc O).alloc (.cells #[.int .i64 0] 3 (0, 0))).alloc (.cells #[.int .i64 0] 3 (0, 0))).alloc (.cells #[.int .i64 0] 3 (0, 0))).alloc (.cells #[.int .i64 0, .int .i64 0] 33 (0, 0)) := ⟨_, rfl⟩; (have P0 : Hid (X.heap[w.heap.size]? = some O) := by rw [hX]; exact alloc_keep (alloc_keep (alloc_keep (alloc_keep (blk_new w O) _) _) _) _); (have P1 : Hid (X.heap[w.heap.size + 1]? = some (.cells #[.int .i64 0] 3 (0, 0))) := by rw [hX]; exact alloc_keep (alloc_keep (alloc_keep (blk_two w O _) _) _) _); (have P2 : Hid (X.heap[w.heap.size + 1 + 1]? = some (.cells #[.int .i64 0] 3 (0, 0))) := by rw [hX]; exact alloc_keep (alloc_keep (blk_at (by simp)) _) _); (have P3 : Hid (X.heap[w.heap.size + 1 + 1 + 1]? = some (.cells #[.int .i64 0] 3 (0, 0))) := by rw [hX]; exact alloc_keep (blk_at (by simp)) _); (have P4 : Hid (X.heap[w.heap.size + 1 + 1 + 1 + 1]? = some (.cells #[.int .i64 0, .int .i64 0] 33 (0, 0))) := by rw [hX]; exact blk_at (by simp)); rw [← hX] at B0; have HB0 : Hid (Below w.heap.size w X) := B0; have HXe : Hid (((((w.alloc O).alloc (.cells #[.int .i64 0] 3 (0, 0))).alloc (.cells #[.int .i64 0] 3 (0, 0))).alloc (.cells #[.int .i64 0] 3 (0, 0))).alloc (.cells #[.int .i64 0, .int .i64 0] 33 (0, 0)) = X) := hX.symm; clear hv hsm B0 hX
  go_enter Try.func10, Try.ntmps10
  go_wp2_with fail; rw [← hO, HXe.out]; refine (HCh.out X HB0.out).mono ?_; rintro e w1 ⟨rfl, hb1⟩; have HB1 : Hid (Below w.heap.size w w1) := below_join HB0.out hb1; rw [hO] at P0; have Q0 : Hid (w1.heap[w.heap.size]? = some _) := below_keep hb1 P0.out; have Q1 : Hid (w1.heap[w.heap.size + 1]? = some (.cells #[.int .i64 0] 3 (0, 0))) := below_keep hb1 P1.out; have Q2 : Hid (w1.heap[w.heap.size + 1 + 1]? = some (.cells #[.int .i64 0] 3 (0, 0))) := below_keep hb1 P2.out; have Q3 : Hid (w1.heap[w.heap.size + 1 + 1 + 1]? = some (.cells #[.int .i64 0] 3 (0, 0))) := below_keep hb1 P3.out; have Q4 : Hid (w1.heap[w.heap.size + 1 + 1 + 1 + 1]? = some (.cells #[.int .i64 0, .int .i64 0] 33 (0, 0))) := below_keep hb1 P4.out; clear hb1 P0 P1 P2 P3 P4 HCh HXe hO HB0; obtain ⟨bS, hS⟩ : ∃ b, b = w.heap.size + 1 := ⟨_, rfl⟩; obtain ⟨bD, hD⟩ : ∃ b, b = w.heap.size + 1 + 1 := ⟨_, rfl⟩; obtain ⟨bR, hR⟩ : ∃ b, b = w.heap.size + 1 + 1 + 1 := ⟨_, rfl⟩; obtain ⟨bF, hF⟩ : ∃ b, b = w.heap.size + 1 + 1 + 1 + 1 := ⟨_, rfl⟩; rw [← hS] at Q1; rw [← hD] at Q2; rw [← hR] at Q3; rw [← hF] at Q4; rw [← hF, ← hR, ← hD, ← hS]; have HNN : Hid (bS = w.heap.size + 1 ∧ bD = w.heap.size + 1 + 1 ∧ bR = w.heap.size + 1 + 1 + 1 ∧ bF = w.heap.size + 1 + 1 + 1 + 1) := ⟨hS, hD, hR, hF⟩; (have N1 : Hid (bS ≠ bD ∧ bS ≠ bR ∧ bD ≠ bR ∧ bF ≠ bS ∧ bF ≠ bD ∧ bF ≠ bR ∧ w.heap.size < bS ∧ w.heap.size < bD ∧ w.heap.size < bR ∧ w.heap.size < bF) := ⟨by omega, by omega, by omega, by omega, by omega, by omega, by omega, by omega, by omega, by omega⟩); clear hS hD hR hF; obtain ⟨j0, j1, j2, j3, j4, j5, j6⟩ := blk7 Q0.out; obtain ⟨u0, u1, u2, u3⟩ := blk2 Q4.out; obtain ⟨s0, s1⟩ := blk1 Q1.out; obtain ⟨d0, d1⟩ := blk1 Q2.out; obtain ⟨r0, r1⟩ := blk1 Q3.out; have y0 := lt_of_block Q0.out; have y1 := lt_of_block Q1.out; have y2 := lt_of_block Q2.out; have y3 := lt_of_block Q3.out; have y4 := lt_of_block Q4.out; obtain ⟨n1, n2, n3, n4, n5, n6, n7, n8, n9, n10⟩ := N1.out; (have m1 : ¬ bD = bS := fun e => n1 e.symm); (have m2 : ¬ bR = bS := fun e => n2 e.symm); (have m3 : ¬ bR = bD := fun e => n3 e.symm); (have m4 : ¬ bS = bF := fun e => n4 e.symm); (have m5 : ¬ bD = bF := fun e => n5 e.symm); (have m6 : ¬ bR = bF := fun e => n6 e.symm); have k1 : ¬ bS = bD := n1; have k2 : ¬ bS = bR := n2; have k3 : ¬ bD = bR := n3; have k4 : ¬ bF = bS := n4; have k5 : ¬ bF = bD := n5; have k6 : ¬ bF = bR := n6; (have q7 : ¬ w.heap.size = bF := by omega); (have q8 : ¬ bF = w.heap.size := by omega); by_cases hc : c = 0
  · subst hc
    have ha : at9 = 0 := HA.out rfl; subst ha; have HE2 := HE.out rfl; clear HE HA HZ; (have HE3 : Hid (∀ W, Below w.heap.size w W → M3 W bS bD bR (0, 0, 0) → _) := fun W hb hm => HE2 W bS bD bR hb n1 n2 n3 (by omega) hm); clear HE2; obtain ⟨W, hW⟩ : ∃ W, W = (w1.setCell ⟨bF, 0, none⟩ (.int .i64 0)).setCell ⟨bF, 1, none⟩ (.int .i64 0) := ⟨_, rfl⟩; (have V1 : Hid (W.heap[bS]? = some (.cells #[.int .i64 0] 3 (0, 0))) := by rw [hW]; exact (set_far n4.symm _).trans ((set_far n4.symm _).trans Q1.out)); (have V2 : Hid (W.heap[bD]? = some (.cells #[.int .i64 0] 3 (0, 0))) := by rw [hW]; exact (set_far n5.symm _).trans ((set_far n5.symm _).trans Q2.out)); (have V3 : Hid (W.heap[bR]? = some (.cells #[.int .i64 0] 3 (0, 0))) := by rw [hW]; exact (set_far n6.symm _).trans ((set_far n6.symm _).trans Q3.out)); (have V4 : Hid (W.heap[bF]? = some (.cells #[.int .i64 0, .int .i64 0] 33 (0, 0))) := by rw [hW]; exact set2 Q4.out _ _); (have HBW : Hid (Below w.heap.size w W) := by rw [hW]; exact (HB1.out.setCell (p := ⟨bF, 0, none⟩) (Nat.le_of_lt n10) _).setCell (p := ⟨bF, 1, none⟩) (Nat.le_of_lt n10) _); have HWe : Hid ((w1.setCell ⟨bF, 0, none⟩ (.int .i64 0)).setCell ⟨bF, 1, none⟩ (.int .i64 0) = W) := hW.symm; clear hW; go_wp2_with fail; rw [HWe.out]; refine (HE3.out W HBW.out ⟨V1.out, V2.out, V3.out⟩).mono ?_; rintro e w2 ⟨rfl, hm2, hk2⟩; have HK2 : Hid (KB3 bS bD bR W w2) := hk2; have X1 : Hid (w2.heap[bS]? = some (.cells #[.int .i64 (M1 : Nat)] 3 (0, 0))) := hm2.s; have X2 : Hid (w2.heap[bD]? = some (.cells #[.int .i64 (M2 : Nat)] 3 (0, 0))) := hm2.d; have X3 : Hid (w2.heap[bR]? = some (.cells #[.int .i64 (M3v : Nat)] 3 (0, 0))) := hm2.r; have X4 : Hid (w2.heap[bF]? = some (.cells #[.int .i64 0, .int .i64 0] 33 (0, 0))) := (hk2.block bF (lt_of_block V4.out) ⟨n4, n5, n6⟩).trans V4.out; (have HB2 : Hid (Below w.heap.size w w2) := KB3.base HBW.out (by omega) hk2); clear hm2 hk2 HWe u0 u1 u2 u3 s0 s1 d0 d1 r0 r1 y0 y1 y2 y3 y4 j0 j1 j2 j3 j4 j5 j6 V1 V2 V3 V4 HE3; obtain ⟨u0, u1, u2, u3⟩ := blk2 X4.out; obtain ⟨s0, s1⟩ := blk1 X1.out; obtain ⟨d0, d1⟩ := blk1 X2.out; obtain ⟨r0, r1⟩ := blk1 X3.out; have y1 := lt_of_block X1.out; have y2 := lt_of_block X2.out; have y3 := lt_of_block X3.out; have y4 := lt_of_block X4.out; go_wp2_with fail
    go_region
    all_goals
      go_wp2_with fail; have g9 := fin7_at (W := w2) n1 n2 n3 n4 n5 n6 X1.out X2.out X3.out X4.out (.int .i64 (M1 : Nat)) (.int .i64 (M2 : Nat)) (.int .i64 (M3v : Nat)) (.int .i64 0) (.int .i64 0); (have BF := fin7_below (w := w) (bS := bS) (bD := bD) (bR := bR) (bF := bF) (by omega) (by omega) (by omega) (by omega) (HB2.out) (.int .i64 (M1 : Nat)) (.int .i64 (M2 : Nat)) (.int .i64 (M3v : Nat)) (.int .i64 0) (.int .i64 0)); show bodyPost _ _ _ _ _ (fin7 (w2) bS bD bR bF (.int .i64 (M1 : Nat)) (.int .i64 (M2 : Nat)) (.int .i64 (M3v : Nat)) (.int .i64 0) (.int .i64 0)).drew; generalize fin7 (w2) bS bD bR bF (.int .i64 (M1 : Nat)) (.int .i64 (M2 : Nat)) (.int .i64 (M3v : Nat)) (.int .i64 0) (.int .i64 0) = F at g9 BF ⊢; obtain ⟨o0, -⟩ := blk1 g9.1; obtain ⟨o1, -⟩ := blk1 g9.2.1; obtain ⟨o2, -⟩ := blk1 g9.2.2.1; obtain ⟨o3, o4, -⟩ := blk2 g9.2.2.2; have v0 : F.drew.cell? ⟨bS, 0, none⟩ = some (.int .i64 (M1 : Nat)) := o0; have v1 : F.drew.cell? ⟨bD, 0, none⟩ = some (.int .i64 (M2 : Nat)) := o1; have v2 : F.drew.cell? ⟨bR, 0, none⟩ = some (.int .i64 (M3v : Nat)) := o2; have v3 : F.drew.cell? ⟨bF, 0, none⟩ = some (.int .i64 0) := o3; have v4 : F.drew.cell? ⟨bF, 1, none⟩ = some (.int .i64 0) := o4; (exact bodyPost_ret (v := .tuple #[.int .i64 (M1 : Nat), .int .i64 (M2 : Nat), .int .i64 (M3v : Nat), .agg #[.int .i64 0, .int .i64 0]]) (by simp [results, Try.results10, go_sem, v0, v1, v2, v3, v4]) rfl ⟨rfl, BF.drew⟩)
  · have hm := HZ.out hc
    simp only [Prod.mk.injEq] at hm; obtain ⟨rfl, rfl, rfl⟩ := hm; (have hcn : (c != 0) = true := by simpa using hc); clear HE HA HZ hc j0 j1 j2 j3 j4 j5 j6; go_wp2_with fail
    go_region
    all_goals
      go_wp2_with fail; have g9 := fin7_at (W := (w1.setCell ⟨bF, 0, none⟩ (.int .i64 c)).setCell ⟨bF, 1, none⟩ (.int .i64 at9)) n1 n2 n3 n4 n5 n6 ((set_far n4.symm _).trans ((set_far n4.symm _).trans Q1.out)) ((set_far n5.symm _).trans ((set_far n5.symm _).trans Q2.out)) ((set_far n6.symm _).trans ((set_far n6.symm _).trans Q3.out)) (set2 Q4.out _ _) (.int .i64 0) (.int .i64 0) (.int .i64 0) (.int .i64 c) (.int .i64 at9); (have BF := fin7_below (w := w) (bS := bS) (bD := bD) (bR := bR) (bF := bF) (by omega) (by omega) (by omega) (by omega) ((HB1.out.setCell (p := ⟨bF, 0, none⟩) (Nat.le_of_lt n10) (.int .i64 c)).setCell (p := ⟨bF, 1, none⟩) (Nat.le_of_lt n10) (.int .i64 at9)) (.int .i64 0) (.int .i64 0) (.int .i64 0) (.int .i64 c) (.int .i64 at9)); show bodyPost _ _ _ _ _ (fin7 ((w1.setCell ⟨bF, 0, none⟩ (.int .i64 c)).setCell ⟨bF, 1, none⟩ (.int .i64 at9)) bS bD bR bF (.int .i64 0) (.int .i64 0) (.int .i64 0) (.int .i64 c) (.int .i64 at9)).drew; generalize fin7 ((w1.setCell ⟨bF, 0, none⟩ (.int .i64 c)).setCell ⟨bF, 1, none⟩ (.int .i64 at9)) bS bD bR bF (.int .i64 0) (.int .i64 0) (.int .i64 0) (.int .i64 c) (.int .i64 at9) = F at g9 BF ⊢; obtain ⟨o0, -⟩ := blk1 g9.1; obtain ⟨o1, -⟩ := blk1 g9.2.1; obtain ⟨o2, -⟩ := blk1 g9.2.2.1; obtain ⟨o3, o4, -⟩ := blk2 g9.2.2.2; have v0 : F.drew.cell? ⟨bS, 0, none⟩ = some (.int .i64 0) := o0; have v1 : F.drew.cell? ⟨bD, 0, none⟩ = some (.int .i64 0) := o1; have v2 : F.drew.cell? ⟨bR, 0, none⟩ = some (.int .i64 0) := o2; have v3 : F.drew.cell? ⟨bF, 0, none⟩ = some (.int .i64 c) := o3; have v4 : F.drew.cell? ⟨bF, 1, none⟩ = some (.int .i64 at9) := o4; (exact bodyPost_ret (v := .tuple #[.int .i64 0, .int .i64 0, .int .i64 0, .agg #[.int .i64 c, .int .i64 at9]]) (by simp [results, Try.results10, go_sem, v0, v1, v2, v3, v4]) rfl ⟨rfl, BF.drew⟩)
end Go.Proofs.Ytffkoiemnchdgae
/- Cuts: the walk of cutBegun. -/
namespace Go.Proofs.Ytffkoiemnchdgae
open Go.RowKit

theorem mid_meas : meas false midO = (3, 3, 0) := by decide +kernel
theorem mid_measA : measA false midO = 0 := by decide +kernel
set_option maxRecDepth 10000 in
set_option maxHeartbeats 2000000 in
theorem cutBegun_any (w : World) : Calls Try.prog 8 #[] w fun e w' => e = .returned (.bool true) ∧ Below w.heap.size w w' := by
  (have hm := fun v (w : World) h => measure_any false midO mid_small v w h); rw [mid_meas, mid_measA, mid_no] at hm; simp only at hm; (have HM : Hid (∀ v w, PRep w midO v → Calls Try.prog 10 #[v, .bool false] w fun e w' => e = .returned (.tuple #[.int .i64 ((3 : Nat) : Int), .int .i64 ((3 : Nat) : Int), .int .i64 ((0 : Nat) : Int), .agg #[.int .i64 0, .int .i64 0]]) ∧ Below w.heap.size w w') := hm); clear hm
  go_enter Try.func8, Try.ntmps8
  go_wp2_with fail; refine (middle_any w).mono ?_; rintro e w1 ⟨x, rfl, hx, hb1⟩; have HX : Hid (PRep w1 midO x) := hx; clear hx; go_wp2_with fail; refine (HM.out _ _ HX.out).mono ?_; rintro e w2 ⟨rfl, hb2⟩; have B2 := below_join hb1 hb2; clear hb1 hb2; go_wp2_with fail; go_ret; exact ⟨rfl, below_more B2 _⟩
end Go.Proofs.Ytffkoiemnchdgae
/- The subformula property, plain. -/
namespace Go.Proofs.Ytffkoiemnchdgae
open Go.RowKit

theorem mem_allNs {g : Fm} : ∀ {L : List Fm}, g ∈ allNs L ↔ ∃ f ∈ L, g ∈ allN f
  | [] => by rw [allNs]; simp
  | f :: L => by rw [allNs, List.mem_append, mem_allNs (L := L)]; simp
theorem allN_own (f : Fm) : f ∈ allN f := by cases f; rw [allN]; simp
theorem fsz_mem {f : Fm} : ∀ {ks : List Fm}, f ∈ ks → f.size ≤ Fm.sizes ks
  | [], h => by cases h
  | k :: ks, h => by
    rw [Fm.sizes]
    rcases List.mem_cons.1 h with rfl | h
    · omega
    · have := fsz_mem h; omega
theorem allN_part : ∀ (m : Nat) (f g h : Fm), f.size < m → g ∈ allN f → h ∈ allN g → h ∈ allN f
  | 0, f, g, h, hm, _, _ => by omega
  | m + 1, .mk k n ks, g, h, hm, hg, hh => by
    rw [allN] at hg ⊢
    rcases List.mem_cons.1 hg with rfl | hg
    · rw [allN] at hh; exact hh
    · obtain ⟨f, hf, hgf⟩ := mem_allNs.1 hg
      have := fsz_mem hf; rw [Fm.size] at hm; (exact List.mem_cons_of_mem _ (mem_allNs.2 ⟨f, hf, allN_part m f g h (by omega) hgf hh⟩))
theorem allNs_part {L : List Fm} {g h : Fm} (hg : g ∈ allNs L) (hh : h ∈ allN g) : h ∈ allNs L := by
  obtain ⟨f, hf, hgf⟩ := mem_allNs.1 hg; exact mem_allNs.2 ⟨f, hf, allN_part _ f g h (Nat.lt_succ_self _) hgf hh⟩
theorem allNs_of {L : List Fm} {g : Fm} (h : g ∈ L) : g ∈ allNs L := mem_allNs.2 ⟨g, h, allN_own g⟩
theorem kidA_in {f : Fm} (hf : Fine f) (h : f.kind = 4 ∨ f.kind = 5 ∨ f.kind = 6 ∨ f.kind = 7) : f.kidA ∈ allN f := by
  rcases h with h | h
  · obtain ⟨a, e, ea, -⟩ := fine_one_of hf h
    rw [ea, e, allN, allNs, allNs]; simp [allN_own]
  · obtain ⟨a, b, e, ea, -⟩ := fine_two_of hf h
    rw [ea, e, allN, allNs]; simp [allN_own]
theorem kidB_in {f : Fm} (hf : Fine f) (h : f.kind = 5 ∨ f.kind = 6 ∨ f.kind = 7) : f.kidB ∈ allN f := by
  obtain ⟨a, b, e, -, eb, -⟩ := fine_two_of hf h; rw [eb, e, allN, allNs, allNs]; simp [allN_own]
theorem within_mem {g : Fm} : ∀ {l m : List Fm}, within l m = true → g ∈ l → g ∈ m
  | [], _, _, h => by cases h
  | f :: l, m, hw, h => by
    rw [within, Bool.and_eq_true] at hw
    rcases List.mem_cons.1 h with rfl | h
    · exact of_decide_eq_true hw.1
    · exact List.mem_of_mem_erase (within_mem hw.2 h)
theorem kidsC_in : ∀ {ks : List Pf} {ss : List (List Fm × List Fm)}, ks.length = ss.length → kidsC ks ss = 0 → ∀ k ∈ ks, ∃ s ∈ ss, k.l.Perm s.1 ∧ k.r.Perm s.2
  | [], _, _, _, k, hk => by cases hk
  | _ :: _, [], h, _, _, _ => by cases h
  | k :: ks, s :: ss, hl, h, u, hu => by
    rw [kidsC] at h
    split at h
    · rename_i hb
      rw [Bool.and_eq_true] at hb
      rcases List.mem_cons.1 hu with rfl | hu
      · exact ⟨s, List.mem_cons_self, (isEq_perm _ _).1 hb.1, (isEq_perm _ _).1 hb.2⟩
      · obtain ⟨s', hs', hp⟩ := kidsC_in (by simpa using hl) h u hu
        exact ⟨s', List.mem_cons_of_mem _ hs', hp⟩
    · cases h
/-- Premises but a cut's have nothing but parts. -/
theorem prem_in (i : Bool) (q : Ru) (hq : q ≠ .cut) {f : Fm} (hf : Fine f) {l r : List Fm} {ss : List (List Fm × List Fm)} (h : prem i q f l r = some ss) : f ∈ l ++ r ∧ ∀ s ∈ ss, ∀ g ∈ s.1 ++ s.2, g ∈ l ++ r ∨ g ∈ allN f := by
  (have er : ∀ {g : Fm} {m : List Fm}, g ∈ m.erase f → g ∈ m := fun h => List.mem_of_mem_erase h); (have a4 : f.kind = 4 → f.kidA ∈ allN f := fun h => kidA_in hf (Or.inl h)); (have a5 : f.kind = 5 → f.kidA ∈ allN f ∧ f.kidB ∈ allN f := fun h => ⟨kidA_in hf (Or.inr (Or.inl h)), kidB_in hf (Or.inl h)⟩); (have a6 : f.kind = 6 → f.kidA ∈ allN f ∧ f.kidB ∈ allN f := fun h => ⟨kidA_in hf (Or.inr (Or.inr (Or.inl h))), kidB_in hf (Or.inr (Or.inl h))⟩); (have a7 : f.kind = 7 → f.kidA ∈ allN f ∧ f.kidB ∈ allN f := fun h => ⟨kidA_in hf (Or.inr (Or.inr (Or.inr h))), kidB_in hf (Or.inr (Or.inr h))⟩); have af := allN_own f
  cases q <;> simp only [prem] at h
  case cut => exact absurd rfl hq
  all_goals
    split at h
    · rename_i hc
      have e := Option.some.inj h; subst e; (refine ⟨?_, fun s hs g hg => ?_⟩)
      · simp only [List.mem_append]
        first
          | exact Or.inl hc.1
          | exact Or.inl hc.2
          | exact Or.inr hc.2
          | exact Or.inl hc
          | exact Or.inr hc
      · simp only [List.mem_cons, List.not_mem_nil, or_false] at hs
        try rcases hs with rfl | rfl
        all_goals
          try subst hs
          simp only [List.mem_append, List.mem_cons, List.not_mem_nil, or_false] at hg ⊢
          try split at hg
          all_goals
            try simp only [List.mem_append, List.mem_cons, List.not_mem_nil, or_false] at hg
            grind
    · cases h
theorem ruleOf_textX {i : Bool} {t : List UInt8} {q : Ru} (h : ruleOf i t = some q) : q.text = t := by
  unfold ruleOf at h; have := List.find?_some h; simpa using this
/-- What stands in a step's premises stands in its end, and so does its formula, unless it weakens. -/
theorem step_in {i : Bool} {p : Pf} (h : stepC i p = 0) (hc : p.rule.data.toList ≠ cutT) : (∀ k ∈ p.ks, ∀ g ∈ k.l ++ k.r, g ∈ allNs (p.l ++ p.r)) ∧ (p.rule.data.toList ≠ weakT → p.f ∈ allNs (p.l ++ p.r)) := by
  obtain ⟨a, f, l, r, ks⟩ := p; show (∀ k ∈ ks, ∀ g ∈ k.l ++ k.r, g ∈ allNs (l ++ r)) ∧ (a.data.toList ≠ weakT → f ∈ allNs (l ++ r)); have hc : a.data.toList ≠ cutT := hc; rw [stepC] at h
  split at h
  · cases h
  · split at h
    · rename_i hw
      (refine ⟨fun k hk g hg => ?_, fun e => absurd hw e⟩); unfold weakC at h
      split at h
      · split at h
        · rename_i k'
          simp only [List.mem_cons, List.not_mem_nil, or_false] at hk; subst hk
          split at h
          · rename_i hb
            rw [Bool.and_eq_true] at hb; refine allNs_of ?_
            rcases List.mem_append.1 hg with hg | hg
            · exact List.mem_append.2 (Or.inl (within_mem hb.1 hg))
            · exact List.mem_append.2 (Or.inr (within_mem hb.2 hg))
          · cases h
        · cases h
      · cases h
    · split at h
      · cases h
      · rename_i q hq
        split at h
        · cases h
        · rename_i hpc
          have hpc : f.pcode.1 = 0 := Decidable.not_not.1 hpc
          split at h
          · cases h
          · rename_i ss hss
            split at h
            · cases h
            · rename_i hl
              have hl : ks.length = ss.length := Decidable.not_not.1 hl; (have hqc : q ≠ .cut := fun e => hc (by rw [← ruleOf_textX hq, e]; rfl)); obtain ⟨h1, h2⟩ := prem_in i q hqc (pc_fineX hpc).1 hss; (refine ⟨fun k hk g hg => ?_, fun _ => allNs_of h1⟩); obtain ⟨s, hs, p1, p2⟩ := kidsC_in hl h k hk
              have hg2 : g ∈ s.1 ++ s.2 := by
                rcases List.mem_append.1 hg with hg | hg
                · exact List.mem_append.2 (Or.inl (p1.mem_iff.1 hg))
                · exact List.mem_append.2 (Or.inr (p2.mem_iff.1 hg))
              rcases h2 s hs g hg2 with h3 | h3
              · exact allNs_of h3
              · exact allNs_part (allNs_of h1) h3
/-- All that a step says is a part of what L has. -/
def AllIn (L : List Fm) (x : Pf) : Prop := (∀ g ∈ x.l ++ x.r, g ∈ allNs L) ∧ (x.rule.data.toList ≠ weakT → x.f ∈ allNs L)
theorem allNs_low {L : List Fm} {M : List Fm} (h : ∀ g ∈ M, g ∈ allNs L) {x : Fm} (hx : x ∈ allNs M) : x ∈ allNs L := by
  obtain ⟨f, hf, hxf⟩ := mem_allNs.1 hx; exact allNs_part (h f hf) hxf
mutual
theorem nodes_in (i : Bool) (L : List Fm) : ∀ (p : Pf) (d : Nat), (∀ x ∈ p.nodesD d, stepC i x.1 = 0 ∧ x.1.rule.data.toList ≠ cutT) → (∀ g ∈ p.l ++ p.r, g ∈ allNs L) → ∀ x ∈ p.nodesD d, AllIn L x.1
  | .mk a f l r ks, d, h, hL, x, hx => by
    rw [Pf.nodesD] at hx h; (have h0 := h (.mk a f l r ks, d) (by simp)); obtain ⟨s1, s2⟩ := step_in h0.1 h0.2
    rcases List.mem_cons.1 hx with rfl | hx
    · exact ⟨hL, fun e => allNs_low hL (s2 e)⟩
    · exact nodesL_in i L ks (d + 1) (fun y hy => h y (by simp [hy])) (fun k hk g hg => allNs_low hL (s1 k hk g hg)) x hx
theorem nodesL_in (i : Bool) (L : List Fm) : ∀ (ks : List Pf) (d : Nat), (∀ x ∈ Pf.nodesDL ks d, stepC i x.1 = 0 ∧ x.1.rule.data.toList ≠ cutT) → (∀ k ∈ ks, ∀ g ∈ k.l ++ k.r, g ∈ allNs L) → ∀ x ∈ Pf.nodesDL ks d, AllIn L x.1
  | [], d, _, _, x, hx => by rw [Pf.nodesDL] at hx; cases hx
  | k :: ks, d, h, hL, x, hx => by
    rw [Pf.nodesDL] at hx h
    rcases List.mem_append.1 hx with hx | hx
    · exact nodes_in i L k d (fun y hy => h y (by simp [hy])) (hL k (by simp)) x hx
    · exact nodesL_in i L ks d (fun y hy => h y (by simp [hy])) (fun k' hk' => hL k' (by simp [hk'])) x hx
end
theorem mlist_cut (xs : List (Pf × Nat)) : ∀ m, m.2.2 ≤ (mlist xs m).2.2 ∧ ∀ x ∈ xs, x.1.rule.data.toList = cutT → x.1.f.size ≤ (mlist xs m).2.2 := by
  induction xs with
  | nil => intro m; exact ⟨Nat.le_refl _, fun x hx => by cases hx⟩
  | cons y xs ih =>
    intro m; rw [mlist]; obtain ⟨h1, h2⟩ := ih (mstep y m); (have e : (mstep y m).2.2 = if y.1.rule.data.toList = cutT then max m.2.2 y.1.f.size else m.2.2 := rfl); rw [e] at h1; (refine ⟨?_, fun x hx hr => ?_⟩)
    · split at h1 <;> omega
    · rcases List.mem_cons.1 hx with rfl | hx
      · rw [if_pos hr] at h1; omega
      · exact h2 x hx hr
theorem fsz_pos (f : Fm) : 1 ≤ f.size := by cases f; rw [Fm.size]; omega
/-- THE SUBFORMULA PROPERTY. -/
theorem subformulas {i : Bool} {p : Pf} (h : (look i p 1 0 0).1.1 = 0) (hr : (meas i p).2.2 = 0) : ∀ x ∈ p.nodesD 1, AllIn (p.l ++ p.r) x.1 := by
  obtain ⟨-, h2⟩ := look_nodes h; (have hm : meas i p = mlist (p.nodesD 1) (0, 0, 0) := by unfold meas; rw [if_neg (fun e => e h)]); rw [hm] at hr; (refine nodes_in i _ p 1 (fun x hx => ⟨(h2 x hx).2, fun e => ?_⟩) fun g hg => allNs_of hg); have := (mlist_cut (p.nodesD 1) (0, 0, 0)).2 x hx e; have := fsz_pos x.1.f; omega
end Go.Proofs.Ytffkoiemnchdgae
/- Walks: the parts of several formulas, as the yardstick tells them. -/
namespace Go.Proofs.Ytffkoiemnchdgae
open Go.RowKit

set_option maxRecDepth 10000 in
set_option maxHeartbeats 8000000 in
theorem partsIn_many (fs : List Fm) (hs : Fm.sizes fs ≤ 20000) (v : Value) (w : World) (hv : FL w v fs) :
    Calls Try.prog 35 #[v] w fun e w' => ∃ x, e = .returned x ∧ FL w' x (partsL [] (allNs fs)) ∧ Below w.heap.size w w' := by
  obtain ⟨ad0, cap0, rfl, h1, h2, h3⟩ := hv.low; have H3 : Hid (fs ≠ [] → ∃ b off, ad0 = some ⟨b, off, none⟩ ∧ b < w.heap.size ∧ Reps w (· < w.heap.size) b off fs) := h3; (have hlI : (fs.length : Int) ≤ 20000 := by have := flen_sizes fs; omega); (have hlc0 : (fs.length : Int) ≤ (cap0 : Int) := by omega); have HS : Hid (Fm.sizes fs ≤ 20000) := hs; obtain ⟨i0, hi, hz0, hz1, hz2⟩ := infoFormula; have HIo : Hid (Try.prog.info? 24 = some i0 ∧ i0.zero = some (.agg #[.int .i64 0, .string ⟨#[]⟩, .slice none 0 0]) ∧ i0.size = 3 ∧ i0.bytes = 48) := ⟨hi, hz0, hz1, hz2⟩; clear h3 h1 h2 hs hv hi hz0 hz1 hz2
  go_enter Try.func35, Try.ntmps35
  go_wp2_with fail
  go_loopg [4, 3] fs.length (fun g c o wr => ∃ i ad cy, i ≤ fs.length ∧ g = fs.length - i ∧ c = .int .i64 (i : Nat) ∧ o = .slice ad (partsL [] (allNs (fs.take i))).length cy ∧ Hid (Below w.heap.size w wr) ∧ Hid (KP (fun _ => True) w.heap.size wr ad cy (partsL [] (allNs (fs.take i)))))
  case atStart => exact ⟨0, none, 0, by omega, by omega, rfl, by rw [List.take_zero, allNs, partsL]; rfl, Below.refl _ _, by show KP _ _ _ _ _ _; rw [List.take_zero, allNs, partsL]; exact KP.nil⟩
  case round =>
    obtain ⟨i, ad, cy, hi, hg, rfl, rfl, HB, HK⟩ := hrel; have HG : Hid (gk = fs.length - i) := hg; clear hg; by_cases hlt : i < fs.length
    · obtain ⟨⟨k, n, ks⟩, hfi⟩ : ∃ f, fs[i]? = some f := ⟨_, List.getElem?_eq_getElem hlt⟩
      (obtain ⟨b, off, rfl, hbw, hrs⟩ := H3.out (fun e => by rw [e] at hlt; simp at hlt)); obtain ⟨sl, cp, g0, g1, g2, hrep⟩ := hrs.at i k n ks hfi; have c0 := (HB.out.cell (p := ⟨b, off + i * 3, none⟩) hbw).trans g0; have c1 := (HB.out.cell (p := ⟨b, off + i * 3 + 1, none⟩) hbw).trans g1; have c2 := (HB.out.cell (p := ⟨b, off + i * 3 + 2, none⟩) hbw).trans g2; (have hltI : (i : Int) < (fs.length : Int) := by omega); (have hltc : (i : Int) < (cap0 : Int) := by omega); (have hrepw : Rep wr (· < w.heap.size) (.mk k n ks) (.agg #[.int .i64 k, .string n, .slice sl ks.length cp]) := hrep.move fun b hb hp => ⟨HB.out.block b hb, hp⟩); obtain ⟨t1, t2⟩ := fsz_take fs i _ hfi; (have hsz : (Fm.mk k n ks).size ≤ 20000 := by have := HS.out; omega); (have hwk := walks_all ((Fm.mk k n ks).size + 1) w.heap.size (.mk k n ks) _ 100000 wr (Nat.lt_succ_self _) (by omega) HB.out.size hrepw); rw [walk_all _ hsz] at hwk; have hTk : allNs (fs.take (i + 1)) = allNs (fs.take i) ++ allN (.mk k n ks) := allNs_drop hfi
      have hPl : (partsL [] (allNs (fs.take i))).length + (allN (.mk k n ks)).length ≤ 20000 := by
        have := partsL_len (allNs (fs.take i)) []; rw [allNs_len] at this; rw [allN_len]; simp only [List.length_nil, Nat.zero_add] at this; have := HS.out; omega
      (have hNx : partsL [] (allNs (fs.take (i + 1))) = partsL (partsL [] (allNs (fs.take i))) (allN (.mk k n ks)) := by rw [hTk, partsL_append]); generalize partsL [] (allNs (fs.take i)) = P0 at *; generalize allN (.mk k n ks) = nodes at *; have HNx : Hid (partsL [] (allNs (fs.take (i + 1))) = partsL P0 nodes) := hNx; have HPl : Hid (P0.length + nodes.length ≤ 20000) := hPl; (have HW : Hid (Calls Try.prog 47 _ wr fun e w' => ∃ u, e = .returned u ∧ LO w.heap.size wr.heap.size w' u nodes ∧ Below wr.heap.size wr w') := hwk); have HI : Hid (i < fs.length) := hlt; clear hwk hrs hrep hrepw hfi t1 t2 hsz hTk hPl hNx g0 g1 g2 hlt hi; go_wp2_with fail; refine HW.out.mono ?_; rintro e w1 ⟨x, rfl, hlo, hb1⟩; obtain ⟨g, cp1, rfl, hc1, hc2, hrs1⟩ := hlo.reps
      have HLO : Hid (∀ (j : Nat) (k2 : Int) (n2 : ByteArray) (ks2 : List Fm), nodes[j]? = some (.mk k2 n2 ks2) → ∃ sl2 cap2, w1.cell? ⟨g, j * 3, none⟩ = some (.int .i64 k2) ∧ w1.cell? ⟨g, j * 3 + 1, none⟩ = some (.string n2) ∧ w1.cell? ⟨g, j * 3 + 2, none⟩ = some (.slice sl2 ks2.length cap2) ∧ Rep w1 (· < w.heap.size) (.mk k2 n2 ks2) (.agg #[.int .i64 k2, .string n2, .slice sl2 ks2.length cap2])) := fun j k2 n2 ks2 hj => by
        obtain ⟨g', cp', cs, hv, hown, hlr⟩ := hlo; simp only [Value.slice.injEq, Option.some.injEq, Addr.mk.injEq, and_true, true_and] at hv; obtain ⟨rfl, rfl⟩ := hv
        have hr := LR.repsA (b := g) 0 hlr fun j u hu => by
          have := hown.cells (g := g) rfl j u hu; rw [add_none] at this; exact this
        obtain ⟨sl', cap', q0, q1, q2, hr2⟩ := hr.at j k2 n2 ks2 hj; rw [Nat.zero_add] at q0 q1 q2; exact ⟨sl', cap', q0, q1, q2, hr2⟩
      have hgg : wr.heap.size ≤ g ∧ g < w1.heap.size := by
        obtain ⟨g', cp', cs, hv, hown, hlr⟩ := hlo; simp only [Value.slice.injEq, Option.some.injEq, Addr.mk.injEq, and_true, true_and] at hv; obtain ⟨rfl, rfl⟩ := hv; exact hown.lt g rfl
      have HGG : Hid (wr.heap.size ≤ g ∧ g < w1.heap.size) := hgg; have HB1 : Hid (Below w.heap.size w w1) := below_join HB.out hb1; (have HK1 : Hid (KP (fun _ => True) w.heap.size w1 ad cy P0) := HK.out.up hb1)
      have HN1 : Hid ((Value.slice ad P0.length cy).ownBlock ≠ some g) := fun e => by
        obtain ⟨cs, ho, -⟩ := HK.out; have := (ho.lt g e).2; omega
      (have hNI : (nodes.length : Int) ≤ 20000 := by have := HPl.out; omega); (have hNc : (nodes.length : Int) ≤ (cp1 : Int) := by omega); clear hlo hb1 hrs1 hgg hc1 hc2 c0 c1 c2 HW; go_wp2_with fail
      go_loopg [6, 3] nodes.length (fun gg c o wz => ∃ j ad cy, j ≤ nodes.length ∧ gg = nodes.length - j ∧ c = .int .i64 (j : Nat) ∧ o = .slice ad (partsL P0 (nodes.take j)).length cy ∧ Hid (Below w.heap.size w wz) ∧ Hid (wz.heap[g]? = w1.heap[g]?) ∧ Hid (w1.heap.size ≤ wz.heap.size) ∧ Hid (KP (fun _ => True) w.heap.size wz ad cy (partsL P0 (nodes.take j))) ∧ Hid ((Value.slice ad (partsL P0 (nodes.take j)).length cy).ownBlock ≠ some g))
      case atStart => exact ⟨0, ad, cy, by omega, by omega, rfl, by rw [List.take_zero, partsL], HB1, rfl, Nat.le_refl _, by show KP _ _ _ _ _ _; rw [List.take_zero, partsL]; exact HK1.out, by show _ ≠ _; rw [List.take_zero, partsL]; exact HN1.out⟩
      case round =>
        obtain ⟨j, ad2, cy2, hj, hg2, rfl, rfl, HBz, HGz, HSz, HKz, HNz⟩ := hrel; have HG2 : Hid (gk = nodes.length - j) := hg2; clear hg2; by_cases hlt : j < nodes.length
        · obtain ⟨⟨k2, n2, ks2⟩, hki⟩ : ∃ f, nodes[j]? = some f := ⟨_, List.getElem?_eq_getElem hlt⟩
          obtain ⟨sl2, cap2, q0, q1, q2, hr2⟩ := HLO.out j k2 n2 ks2 hki; have p0 := (cell_of_block (a := ⟨g, j * 3, none⟩) HGz.out).trans q0; have p1 := (cell_of_block (a := ⟨g, j * 3 + 1, none⟩) HGz.out).trans q1; have p2 := (cell_of_block (a := ⟨g, j * 3 + 2, none⟩) HGz.out).trans q2; (have hrepA : Rep wr (· < w.heap.size) (.mk k2 n2 ks2) (.agg #[.int .i64 k2, .string n2, .slice sl2 ks2.length cap2]) := hr2.move fun b _ hp => ⟨(HBz.out.block b hp).trans (HB1.out.block b hp).symm, hp⟩); (have hltI : (j : Int) < (nodes.length : Int) := by omega); (have hlc : (j : Int) < (cp1 : Int) := by omega)
          have hT : partsL P0 (nodes.take (j + 1)) = if hasF (.mk k2 n2 ks2) (partsL P0 (nodes.take j)) = true then partsL P0 (nodes.take j) else partsL P0 (nodes.take j) ++ [.mk k2 n2 ks2] := by
            rw [List.take_add_one, hki, partsL_append]; show partsL (partsL P0 (nodes.take j)) [Fm.mk k2 n2 ks2] = _; rw [partsL, partsL]
          have hLn : (partsL P0 (nodes.take j)).length ≤ 20000 := by
            have h8 := partsL_len (nodes.take j) P0; have h9 := HPl.out; rw [List.length_take] at h8; omega
          (have hha := has_any (partsL P0 (nodes.take j)) (.mk k2 n2 ks2) _ _ wr (HKz.out.list (fun b _ => trivial)) (hrepA.weak fun _ _ _ => trivial)); generalize hfs : partsL P0 (nodes.take j) = ps at *; clear hfs; have HRA : Hid (Rep wr (· < w.heap.size) (.mk k2 n2 ks2) (.agg #[.int .i64 k2, .string n2, .slice sl2 ks2.length cap2])) := hrepA; have HLn : Hid (ps.length ≤ 20000) := hLn; have HI2 : Hid (j < nodes.length) := hlt; (have zg : g < wr.heap.size := by have := HGG.out; have := HSz.out; omega); (have hpsI : (ps.length : Int) ≤ 20000 := by omega); obtain ⟨hi, hz0, hz1, hz2⟩ := HIo.out
          rcases hh : hasF (.mk k2 n2 ks2) ps with _ | _
          · rw [hh] at hha hT
            have HT : Hid (partsL P0 (nodes.take (j + 1)) = ps ++ [.mk k2 n2 ks2]) := hT; have HA : Hid (Calls Try.prog 37 _ wr _) := hha; clear hki hha hT hh hr2 hrepA q0 q1 q2 hLn hlt hj
            go_wp2_with (first
              | (go_at_call 37
                 refine HA.out.mono ?_; rintro e w2 ⟨rfl, hb2⟩; have c0 := (hb2.cell (p := ⟨g, j * 3, none⟩) zg).trans p0; have c1 := (hb2.cell (p := ⟨g, j * 3 + 1, none⟩) zg).trans p1; have c2 := (hb2.cell (p := ⟨g, j * 3 + 2, none⟩) zg).trans p2; have z2 := hb2.size
                 have zz := HBz.out.size)
              | (at_builtin
                 have hownA := (HKz.out.up hb2).up ((Below.refl _ w2).alloc (Nat.le_refl _) (.cells #[.int .i64 k2, .string n2, .slice sl2 ks2.length cap2] 24 (0, 0))); obtain ⟨cs, hown, hlq⟩ := hownA; (refine wpList_append_lies _ rfl _ _ 22 rfl w.heap.size 24 i0 (.agg #[.int .i64 0, .string ⟨#[]⟩, .slice none 0 0]) 3 48 Try.underlying22 hi hz0 hz1 hz2 rfl (by decide) _ _ _ rfl hown ⟨w2.heap.size, 0, none⟩ 1 1 [.int .i64 k2, .string n2, .slice sl2 ks2.length cap2] rfl rfl ?_ ?_ (by omega) (by have := HLn.out; unfold maxLen; omega) (by have := HLn.out; omega) (by simp; omega) _ rfl ?_)
                 · intro j u hu
                   rw [add_none, Nat.zero_add, blk_cell (blk_new w2 _)]; simpa using hu
                 · intro u hu
                   simp at hu
                   rcases hu with rfl | rfl | rfl <;> rfl
                 intro g3 cp3 w3 hown3 hgrow hat hlt3; have hgrow' : (w2.alloc (.cells #[.int .i64 k2, .string n2, .slice sl2 ks2.length cap2] 24 (0, 0))).grownBy w3 (Value.slice ad2 ps.length cy2).ownBlock := hgrow; have hat' : (Value.slice ad2 ps.length cy2).ownBlock = some g3 ∨ g3 = (w2.alloc (.cells #[.int .i64 k2, .string n2, .slice sl2 ks2.length cap2] 24 (0, 0))).heap.size := hat; clear hgrow hat; (obtain ⟨hbB, hko⟩ := KP.app rfl (by omega) hown hlq ((HRA.out.up' hb2).move fun b _ hb => ⟨rfl, trivial, fun e => by have := (hown.lt b e).1; have : b < w.heap.size := hb; omega⟩) hown3 hgrow' hat'); (have HKO : Hid (KP (fun _ => True) w.heap.size w3 (some ⟨g3, 0, none⟩) cp3 (ps ++ [.mk k2 n2 ks2])) := hko); (have hsA : (w2.alloc (.cells #[.int .i64 k2, .string n2, .slice sl2 ks2.length cap2] 24 (0, 0))).heap.size = w2.heap.size + 1 := by simp)
                 have HG3 : Hid (w3.heap[g]? = w1.heap[g]?) := by
                   show _ = _; (rw [hgrow'.block g (by omega) (fun e => HNz.out e.symm), Below.heap_alloc _ _ _ (by omega), hb2.block g zg]); exact HGz.out
                 have HN3 : Hid ((Value.slice (some ⟨g3, 0, none⟩) (ps ++ [Fm.mk k2 n2 ks2]).length cp3).ownBlock ≠ some g) := fun e => by
                   (have e : g3 = g := by simpa [Value.ownBlock] using e)
                   rcases hat' with h | h
                   · exact HNz.out (by rw [h, e])
                   · omega
                 (have HS3 : Hid (w1.heap.size ≤ w3.heap.size) := by have := hgrow'.size; have := HSz.out; show _ ≤ _; omega); have HB3 : Hid (Below w.heap.size w w3) := (below_join HBz.out hb2).trans hbB
                 clear hgrow' hat' hown3 hown hlq hko hbB hsA)
              | fail)
            go_roundg (nodes.length - (j + 1))
            case measure => have := HG2.out; have := HI2.out; omega
            case rel =>
              (refine ⟨j + 1, some ⟨g3, 0, none⟩, cp3, HI2.out, rfl, by go_num, ?_, HB3, HG3, HS3, ?_, ?_⟩)
              · rw [HT.out, List.length_append]; rfl
              · show KP _ _ _ _ _ _
                rw [HT.out]; exact HKO.out
              · show _ ≠ _
                rw [HT.out]; exact HN3.out
          · rw [hh] at hha hT
            have HT : Hid (partsL P0 (nodes.take (j + 1)) = ps) := hT; have HA : Hid (Calls Try.prog 37 _ wr _) := hha; clear hki hha hT hh hr2 hrepA q0 q1 q2 hLn hlt hj
            go_wp2_with (first
              | (go_at_call 37
                 refine HA.out.mono ?_
                 rintro e w2 ⟨rfl, hb2⟩)
              | fail)
            go_roundg (nodes.length - (j + 1))
            case measure => have := HG2.out; have := HI2.out; omega
            case rel =>
              (refine ⟨j + 1, ad2, cy2, HI2.out, rfl, by go_num, by rw [HT.out], below_join HBz.out hb2, ?_, ?_, ?_, ?_⟩)
              · exact (hb2.block g zg).trans HGz.out
              · exact Nat.le_trans HSz.out hb2.size
              · show KP _ _ _ _ _ _
                rw [HT.out]; exact HKz.out.up hb2
              · show _ ≠ _
                rw [HT.out]; exact HNz.out
        · have hjj : j = nodes.length := by omega
          subst hjj; (have hge : ¬ (nodes.length : Int) < (nodes.length : Int) := by omega); have hK9 := HKz.out; rw [List.take_length, ← HNx.out] at hK9; (have HK9 : Hid (KP (fun _ => True) w.heap.size wr ad2 cy2 (partsL [] (allNs (fs.take (i + 1))))) := hK9); (have hL9 : partsL P0 (nodes.take nodes.length) = partsL [] (allNs (fs.take (i + 1))) := by rw [List.take_length, HNx.out]); rw [hL9]; clear hlt hj hK9 hL9 HKz HNz; go_wp2_with fail
          go_roundg (fs.length - (i + 1))
          case measure => have := HG.out; have := HI.out; omega
          case rel => exact ⟨i + 1, ad2, cy2, HI.out, rfl, by go_num, rfl, HBz, HK9⟩
    · have hii : i = fs.length := by omega
      subst hii; (have hge : ¬ (fs.length : Int) < (fs.length : Int) := by omega); (have hK9 := HK.out.list (fun b _ => trivial)); have e9 : fs.take fs.length = fs := List.take_length; rw [e9] at hK9 ⊢; have HK9 : Hid (FL wr _ (partsL [] (allNs fs))) := hK9; clear hlt hi hK9; go_wp2_with fail; go_ret; exact ⟨_, rfl, HK9.out, HB.out⟩
end Go.Proofs.Ytffkoiemnchdgae
/- Walks: inEnd. -/
namespace Go.Proofs.Ytffkoiemnchdgae
open Go.RowKit

theorem eval_tmpX {a : Act} {n : Nat} {v : Value} (h : a.tmps[n]? = some v) : a.eval (.tmp n) = v := by
  simp [Act.eval, h]
theorem someInjX {x y : Value} (h : some x = some y) : x = y := Option.some.inj h
theorem rowX1 (l : List Value) (h0 : l.length = 1) : ∃ x0, l = [x0] := by
  obtain ⟨x0, l1, e0, h1⟩ := cons_len h0; have e1 : l1 = [] := List.length_eq_zero_iff.1 h1; subst e1 e0; exact ⟨x0, rfl⟩
theorem rowX9 (l : List Value) (h0 : l.length = 9) : ∃ x0 x1 x2 x3 x4 x5 x6 x7 x8, l = [x0, x1, x2, x3, x4, x5, x6, x7, x8] := by
  obtain ⟨x0, l1, e0, h1⟩ := cons_len h0; obtain ⟨x1, l2, e1, h2⟩ := cons_len h1; obtain ⟨x2, l3, e2, h3⟩ := cons_len h2; obtain ⟨x3, l4, e3, h4⟩ := cons_len h3; obtain ⟨x4, l5, e4, h5⟩ := cons_len h4; obtain ⟨x5, l6, e5, h6⟩ := cons_len h5; obtain ⟨x6, l7, e6, h7⟩ := cons_len h6; obtain ⟨x7, l8, e7, h8⟩ := cons_len h7; obtain ⟨x8, l9, e8, h9⟩ := cons_len h8; have e9 : l9 = [] := List.length_eq_zero_iff.1 h9; subst e9 e8 e7 e6 e5 e4 e3 e2 e1 e0; exact ⟨x0, x1, x2, x3, x4, x5, x6, x7, x8, rfl⟩
theorem rowX14 (l : List Value) (h0 : l.length = 14) : ∃ x0 x1 x2 x3 x4 x5 x6 x7 x8 x9 x10 x11 x12 x13, l = [x0, x1, x2, x3, x4, x5, x6, x7, x8, x9, x10, x11, x12, x13] := by
  obtain ⟨x0, l1, e0, h1⟩ := cons_len h0; obtain ⟨x1, l2, e1, h2⟩ := cons_len h1; obtain ⟨x2, l3, e2, h3⟩ := cons_len h2; obtain ⟨x3, l4, e3, h4⟩ := cons_len h3; obtain ⟨x4, l5, e4, h5⟩ := cons_len h4; obtain ⟨x5, l6, e5, h6⟩ := cons_len h5; obtain ⟨x6, l7, e6, h7⟩ := cons_len h6; obtain ⟨x7, l8, e7, h8⟩ := cons_len h7; obtain ⟨x8, l9, e8, h9⟩ := cons_len h8; obtain ⟨x9, l10, e9, h10⟩ := cons_len h9; obtain ⟨x10, l11, e10, h11⟩ := cons_len h10; obtain ⟨x11, l12, e11, h12⟩ := cons_len h11; obtain ⟨x12, l13, e12, h13⟩ := cons_len h12; obtain ⟨x13, l14, e13, h14⟩ := cons_len h13; have e14 : l14 = [] := List.length_eq_zero_iff.1 h14; subst e14 e13 e12 e11 e10 e9 e8 e7 e6 e5 e4 e3 e2 e1 e0; exact ⟨x0, x1, x2, x3, x4, x5, x6, x7, x8, x9, x10, x11, x12, x13, rfl⟩
theorem sizes_le : ∀ (fs : List Fm), (∀ g ∈ fs, g.size ≤ 200) → Fm.sizes fs ≤ 200 * fs.length
  | [], _ => by rw [Fm.sizes]; simp
  | f :: fs, h => by
    (have h1 := sizes_le fs fun g hg => h g (by simp [hg])); (have h2 := h f (by simp)); rw [Fm.sizes, List.length_cons]; omega
theorem seq_ok {i : Bool} {x : Pf} (h : stepC i x = 0) : x.l.length + x.r.length ≤ 60 ∧ ∀ g ∈ x.l ++ x.r, g.pcode.1 = 0 := by
  obtain ⟨a, f, l, r, ks⟩ := x; rw [stepC] at h
  split at h
  · cases h
  · rename_i h1
    (exact seqCode_zero (l := l) (r := r) (Decidable.byContradiction fun e => h1 (Or.inl e)))
theorem look_stepsX {i : Bool} {p : Pf} (h : (look i p 1 0 0).1.1 = 0) : p.stepsL 1 20001 = p.nodesD 1 := by
  obtain ⟨h1, h2⟩ := look_nodes h
  rcases steps_agree p 1 20001 with e | ⟨P, X, Y, -, hM, hP⟩
  · exact e
  · rcases hP with hP | ⟨x, hx, hd⟩
    · rw [hM, List.length_append] at h1; omega
    · have := (h2 x (by rw [hM]; simp [hx])).1; omega
structure GAp where
  ad : Option Addr
  cp : Nat
  ad' : Option Addr
  cp' : Nat
def GAp.none0 : GAp := ⟨none, 0, none, 0⟩
/-- A copy of one list behind which another is put: what is known while it is made. -/
structure StAp (W : World) (l r : List Fm) (l1 l2 : Bool) (y : GAp) (w : World) : Prop where
  below : Below W.heap.size W w
  own : l1 = true → l2 = false → AppL W.heap.size W.heap.size l y.ad y.cp w
  app : l2 = true → AppL W.heap.size W.heap.size (l ++ r) y.ad' y.cp' w
theorem StAp.up {W w w' : World} {l r : List Fm} {l1 l2 : Bool} {y : GAp} (h : StAp W l r l1 l2 y w) (hb : Below w.heap.size w w') : StAp W l r l1 l2 y w' :=
  ⟨below_join h.below hb, fun e1 e2 => (h.own e1 e2).up hb, fun e => (h.app e).up hb⟩
theorem StAp.mine {W w w' : World} {l r : List Fm} {l1 l2 : Bool} {y : GAp} (h : StAp W l r l1 l2 y w) (e2 : l2 = false) (hb : Below W.heap.size w w') {ad : Option Addr} {cp : Nat} (hk : AppL W.heap.size W.heap.size l ad cp w') : StAp W l r true l2 { y with ad := ad, cp := cp } w' :=
  ⟨h.below.trans hb, fun _ _ => hk, fun e => (by rw [e2] at e; cases e)⟩
theorem StAp.both {W w w' : World} {l r : List Fm} {l1 l2 : Bool} {y : GAp} (h : StAp W l r l1 l2 y w) (hb : Below W.heap.size w w') {ad : Option Addr} {cp : Nat} (hk : AppL W.heap.size W.heap.size (l ++ r) ad cp w') : StAp W l r l1 true { y with ad' := ad, cp' := cp } w' :=
  ⟨h.below.trans hb, fun _ e => (by cases e), fun _ => hk⟩
theorem appL_kp {A : Nat} {fs : List Fm} {ad : Option Addr} {cp : Nat} {w : World} (h : AppL A A fs ad cp w) : KP (fun _ => True) A w ad cp fs := by
  obtain ⟨cs, ho, hq⟩ := h; (exact ⟨cs, ho, hq.move fun b _ hb => ⟨rfl, trivial, fun e => by have := (ho.lt b e).1; omega⟩⟩)
theorem partsL_mem {g : Fm} : ∀ (L acc : List Fm), g ∈ partsL acc L ↔ g ∈ acc ∨ g ∈ L
  | [], acc => by rw [partsL]; simp
  | f :: L, acc => by
    rw [partsL, partsL_mem L]; by_cases h : hasF f acc = true
    · rw [if_pos h]
      have hm := (hasF_mem f acc).1 h
      constructor
      · rintro (h1 | h1)
        · exact Or.inl h1
        · exact Or.inr (by simp [h1])
      · rintro (h1 | h1)
        · exact Or.inl h1
        · rcases List.mem_cons.1 h1 with rfl | h1
          · exact Or.inl hm
          · exact Or.inr h1
    · rw [if_neg h]
      simp only [List.mem_append, List.mem_cons, List.not_mem_nil, or_false, or_assoc]

set_option maxRecDepth 10000 in
set_option maxHeartbeats 16000000 in
theorem inEnd_any (i : Bool) (p : Pf) (hsm : SmallP p) (h0 : (look i p 1 0 0).1.1 = 0) (hr : (meas i p).2.2 = 0) (v : Value) (w : World) (hv : PRep w p v) :
    Calls Try.prog 11 #[v] w fun e w' => e = .returned (.bool true) ∧ Below w.heap.size w w' := by
  have hsub := subformulas h0 hr; obtain ⟨hn1, hn2⟩ := look_nodes h0; (have hseq : ∀ x ∈ p.nodesD 1, x.1.l.length + x.1.r.length ≤ 60 ∧ ∀ g ∈ x.1.l ++ x.1.r, g.pcode.1 = 0 := fun x hx => seq_ok (hn2 x hx).2); (have hp0 : (p, 1) ∈ p.nodesD 1 := by cases p; rw [Pf.nodesD]; simp); (have HLx : Hid (∀ x ∈ p.nodesD 1, x.1.l.length + x.1.r.length ≤ 60 ∧ AllIn (p.l ++ p.r) x.1) := fun x hx => ⟨(hseq x hx).1, hsub x hx⟩); have hE := hseq _ hp0
  have hES : Fm.sizes (p.l ++ p.r) ≤ 20000 := by
    (have h1 := sizes_le (p.l ++ p.r) fun g hg => (pc_fineX (hE.2 g hg)).2); (have h2 : (p.l ++ p.r).length ≤ 60 := by rw [List.length_append]; exact hE.1); omega
  (have HPi : Hid (∀ v W, FL W v (p.l ++ p.r) → Calls Try.prog 35 #[v] W fun e w' => ∃ x, e = .returned x ∧ FL w' x (partsL [] (allNs (p.l ++ p.r))) ∧ Below W.heap.size W w') := fun v W h => partsIn_many _ hES v W h); (have HPp : Hid (∀ g, g ∈ allNs (p.l ++ p.r) → hasF g (partsL [] (allNs (p.l ++ p.r))) = true) := fun g hg => (hasF_mem _ _).2 ((partsL_mem _ _).2 (Or.inr hg)))
  have HSt2 : Hid (∀ W, Below w.heap.size w W → Calls Try.prog 36 #[v, .int .i64 1, .int .i64 20001] W fun e w' => ∃ ad cp ad' cp', e = .returned (.tuple #[.slice ad (p.nodesD 1).length cp, .slice ad' (p.nodesD 1).length cp']) ∧ KF (· < W.heap.size) W.heap.size w' ad cp ((p.nodesD 1).map Prod.fst) ∧ Below W.heap.size W w') := fun W hb => by
    (have h9 := stepsq_all W.heap.size (p.size + 1) p v W 1 20001 (Nat.lt_succ_self _) hsm (by omega) (by omega) (Nat.le_refl _) (PRep.low _ _ (PRep.up hb _ _ hv))); rw [look_stepsX h0] at h9; refine h9.mono ?_; rintro e w' ⟨ad, cp, ad', cp', e1, e2, -, e4⟩; exact ⟨ad, cp, ad', cp', e1, e2, e4⟩
  have hL0 : (p.nodesD 1).length ≤ 20000 := hn1; have hEl := hE.1; have hEE : p.l ++ p.r = p.l ++ p.r := rfl; generalize p.nodesD 1 = L0 at *; obtain ⟨a, ⟨k, n, kf⟩, l, r, ks⟩ := p
  replace hEl : l.length + r.length ≤ 60 := hEl
  obtain ⟨EE, hEE⟩ : ∃ EE, EE = l ++ r := ⟨_, rfl⟩; obtain ⟨PP, hPP⟩ : ∃ PP, PP = partsL [] (allNs EE) := ⟨_, rfl⟩
  replace HPi : Hid (∀ v W, FL W v (l ++ r) → Calls Try.prog 35 #[v] W fun e w' => ∃ x, e = .returned x ∧ FL w' x PP ∧ Below W.heap.size W w') := by rw [hPP, hEE]; exact HPi.out
  replace HPp : Hid (∀ g, g ∈ allNs EE → hasF g PP = true) := by rw [hPP, hEE]; exact HPp.out
  replace HLx : Hid (∀ x ∈ L0, x.1.l.length + x.1.r.length ≤ 60 ∧ AllIn EE x.1) := by rw [hEE]; exact HLx.out
  obtain ⟨sf, cf, al, cl, ar, cr, sl, cap, rfl, -, -, hfl, hfr, -⟩ := hv.parts; (have hLI : (L0.length : Int) ≤ 20000 := by omega); have HBX : Hid (Below w.heap.size w (w.alloc (.cells #[.string a, .int .i64 k, .string n, .slice sf kf.length cf, .slice al l.length cl, .slice ar r.length cr, .slice sl ks.length cap] 29 (0, 0)))) := below_more (Below.refl _ w) _; have X0 : Hid ((w.alloc (.cells #[.string a, .int .i64 k, .string n, .slice sf kf.length cf, .slice al l.length cl, .slice ar r.length cr, .slice sl ks.length cap] 29 (0, 0))).heap[w.heap.size]? = some (.cells #[.string a, .int .i64 k, .string n, .slice sf kf.length cf, .slice al l.length cl, .slice ar r.length cr, .slice sl ks.length cap] 29 (0, 0))) := blk_new w _; have HLl : Hid (FLp (· < (w.alloc (.cells #[.string a, .int .i64 k, .string n, .slice sf kf.length cf, .slice al l.length cl, .slice ar r.length cr, .slice sl ks.length cap] 29 (0, 0))).heap.size) (w.alloc (.cells #[.string a, .int .i64 k, .string n, .slice sf kf.length cf, .slice al l.length cl, .slice ar r.length cr, .slice sl ks.length cap] 29 (0, 0))) (.slice al l.length cl) l) := (hfl.up HBX.out).low; have HLr : Hid (FLp (· < (w.alloc (.cells #[.string a, .int .i64 k, .string n, .slice sf kf.length cf, .slice al l.length cl, .slice ar r.length cr, .slice sl ks.length cap] 29 (0, 0))).heap.size) (w.alloc (.cells #[.string a, .int .i64 k, .string n, .slice sf kf.length cf, .slice al l.length cl, .slice ar r.length cr, .slice sl ks.length cap] 29 (0, 0))) (.slice ar r.length cr) r) := (hfr.up HBX.out).low; have HLn : Hid (l.length + r.length ≤ 60) := hEl; obtain ⟨X, hX⟩ : ∃ X, X = w.alloc (.cells #[.string a, .int .i64 k, .string n, .slice sf kf.length cf, .slice al l.length cl, .slice ar r.length cr, .slice sl ks.length cap] 29 (0, 0)) := ⟨_, rfl⟩; have HXe : Hid (w.alloc (.cells #[.string a, .int .i64 k, .string n, .slice sf kf.length cf, .slice al l.length cl, .slice ar r.length cr, .slice sl ks.length cap] 29 (0, 0)) = X) := hX.symm; rw [← hX] at HBX X0 HLl HLr; clear hv hfl hfr hX hsm h0 hr hsub hn1 hn2 hseq hp0 hE hES hL0 hEl hEE hPP
  go_enter Try.func11, Try.ntmps11
  go_upto_region 1 with fail
  rw [HXe.out]; clear HXe; (refine wp_region_gh (by kernel_rfl) (by kernel_rfl) (by kernel_rfl) 70 rfl (by kernel_rfl) [fun _ v _ => v = (.pointer (some ⟨w.heap.size, 4, none⟩)), fun _ v _ => v = (.pointer (some ⟨w.heap.size, 4, none⟩)), fun _ v _ => v = (.slice al l.length cl), fun y v _ => v = (.slice y.ad l.length y.cp), fun _ v _ => v = (.pointer (some ⟨w.heap.size, 4, none⟩)), fun _ v _ => v = (.pointer (some ⟨w.heap.size, 5, none⟩)), fun _ v _ => v = (.slice ar r.length cr), fun y v _ => v = (.slice y.ad' (l.length + r.length) y.cp'), fun _ v w => ∃ ad cp, v = .slice ad PP.length cp ∧ FL w v PP, fun _ v w => ∃ ad cp, v = .slice ad PP.length cp ∧ FL w v PP] (fun _ _ => true) (fun L => StAp X l r (L 3) (L 7)) (GAp.none0) ?_ ?_ ?_)
  · exact fun wx h _ => ⟨h, fun e => (by cases e), fun e => (by cases e)⟩
  · refine ⟨?_, ?_, ?_, ?_, ?_, ?_, ?_, ?_, ?_, ?_, trivial⟩
    · intro L y a9 wx hSt hLi hdl hcl hold hdep K hK
      have HSt : Hid (StAp X l r (L 3) (L 7) y wx) := hSt; clear hSt; have t1 : a9.tmps[1]? = some (.pointer (some ⟨w.heap.size, 0, none⟩)) := hold 1 rfl; clear hold hdep hdl hcl hLi; go_simp; (exact hK.out _ _ y HSt.out rfl (fun j hj hl => ⟨hl, fun u h => h⟩))
    · intro L y a9 wx hSt hLi hdl hcl hold hdep K hK
      have HSt : Hid (StAp X l r (L 3) (L 7) y wx) := hSt; clear hSt; obtain ⟨v9, t9, q9⟩ := hdep 0 rfl _ 9 rfl rfl; have e9 : v9 = (.pointer (some ⟨w.heap.size, 4, none⟩)) := q9 rfl; subst e9; clear hold hdep hdl hcl hLi; go_simp; (exact hK.out _ _ y HSt.out rfl (fun j hj hl => ⟨hl, fun u h => h⟩))
    · intro L y a9 wx hSt hLi hdl hcl hold hdep K hK
      have HSt : Hid (StAp X l r (L 3) (L 7) y wx) := hSt; clear hSt; obtain ⟨v10, t10, q10⟩ := hdep 1 rfl _ 10 rfl rfl; have e10 : v10 = (.pointer (some ⟨w.heap.size, 4, none⟩)) := q10 rfl; subst e10; obtain ⟨-, -, -, -, d4, d5, -⟩ := blk7 (below_keep HSt.out.below X0.out); clear hold hdep hdl hcl hLi; go_simp; (exact hK.out _ _ y HSt.out rfl (fun j hj hl => ⟨hl, fun u h => h⟩))
    · intro L y a9 wx hSt hLi hdl hcl hold hdep K hK
      have HSt : Hid (StAp X l r (L 3) (L 7) y wx) := hSt; clear hSt; obtain ⟨v11, t11, q11⟩ := hdep 2 rfl _ 11 rfl rfl; have e11 : v11 = (.slice al l.length cl) := q11 rfl; subst e11; (have e2 : L 7 = false := not_yet hLi fun h => hcl 7 _ rfl h 3 rfl); have hzw := HSt.out.below.size; clear hold hdep hdl; (refine step_appF rfl _ _ rfl X.heap.size X.heap.size [] l none 0 _ rfl AppL.nil (eval_tmpX t11) (HLl.out.up HSt.out.below) (Nat.le_refl _) hzw (by have := HLn.out; simp; omega) ?_); intro ad3 cp3 w3 h3 b3 k3; refine hK.out _ _ { y with ad := ad3, cp := cp3 } (HSt.out.mine e2 b3 h3) rfl ?_; intro j hj hl
      rcases j with _ | _ | _ | _ | _ | _ | _ | _ | _ | _ | j
      · exact ⟨rfl, fun u h => h⟩
      · exact ⟨rfl, fun u h => h⟩
      · exact ⟨rfl, fun u h => h⟩
      · exact Bool.noConfusion (hLi.symm.trans hj)
      · exact ⟨rfl, fun u h => h⟩
      · exact ⟨rfl, fun u h => h⟩
      · exact ⟨rfl, fun u h => h⟩
      · exact Bool.noConfusion (hLi.symm.trans (hcl 7 _ rfl hj 3 rfl))
      · exact Bool.noConfusion (hLi.symm.trans (hcl 7 _ rfl (hcl 8 _ rfl hj 7 rfl) 3 rfl))
      · exact Bool.noConfusion (hLi.symm.trans (hcl 7 _ rfl (hcl 8 _ rfl (hcl 9 _ rfl hj 8 rfl) 7 rfl) 3 rfl))
      · exact ⟨rfl, fun u h => h⟩
    · intro L y a9 wx hSt hLi hdl hcl hold hdep K hK
      have HSt : Hid (StAp X l r (L 3) (L 7) y wx) := hSt; clear hSt; have t1 : a9.tmps[1]? = some (.pointer (some ⟨w.heap.size, 0, none⟩)) := hold 1 rfl; clear hold hdep hdl hcl hLi; go_simp; (exact hK.out _ _ y HSt.out rfl (fun j hj hl => ⟨hl, fun u h => h⟩))
    · intro L y a9 wx hSt hLi hdl hcl hold hdep K hK
      have HSt : Hid (StAp X l r (L 3) (L 7) y wx) := hSt; clear hSt; obtain ⟨v13, t13, q13⟩ := hdep 4 rfl _ 13 rfl rfl; have e13 : v13 = (.pointer (some ⟨w.heap.size, 4, none⟩)) := q13 rfl; subst e13; clear hold hdep hdl hcl hLi; go_simp; (exact hK.out _ _ y HSt.out rfl (fun j hj hl => ⟨hl, fun u h => h⟩))
    · intro L y a9 wx hSt hLi hdl hcl hold hdep K hK
      have HSt : Hid (StAp X l r (L 3) (L 7) y wx) := hSt; clear hSt; obtain ⟨v14, t14, q14⟩ := hdep 5 rfl _ 14 rfl rfl; have e14 : v14 = (.pointer (some ⟨w.heap.size, 5, none⟩)) := q14 rfl; subst e14; obtain ⟨-, -, -, -, d4, d5, -⟩ := blk7 (below_keep HSt.out.below X0.out); clear hold hdep hdl hcl hLi; go_simp; (exact hK.out _ _ y HSt.out rfl (fun j hj hl => ⟨hl, fun u h => h⟩))
    · intro L y a9 wx hSt hLi hdl hcl hold hdep K hK
      have HSt : Hid (StAp X l r (L 3) (L 7) y wx) := hSt; clear hSt; obtain ⟨v12, t12, q12⟩ := hdep 3 rfl _ 12 rfl rfl; have e12 : v12 = (.slice y.ad l.length y.cp) := q12 rfl; subst e12; obtain ⟨v15, t15, q15⟩ := hdep 6 rfl _ 15 rfl rfl; have e15 : v15 = (.slice ar r.length cr) := q15 rfl; subst e15; have e1 : L 3 = true := hdl 3 rfl; have hzw := HSt.out.below.size; clear hold hdep hdl; (refine step_appF rfl _ _ rfl X.heap.size X.heap.size l r y.ad y.cp _ (eval_tmpX t12) (HSt.out.own e1 hLi) (eval_tmpX t15) (HLr.out.up HSt.out.below) (Nat.le_refl _) hzw (by have := HLn.out; omega) ?_); intro ad3 cp3 w3 h3 b3 k3; rw [List.length_append]; refine hK.out _ _ { y with ad' := ad3, cp' := cp3 } (HSt.out.both b3 h3) rfl ?_; intro j hj hl
      rcases j with _ | _ | _ | _ | _ | _ | _ | _ | _ | _ | j
      · exact ⟨rfl, fun u h => h⟩
      · exact ⟨rfl, fun u h => h⟩
      · exact ⟨rfl, fun u h => h⟩
      · exact ⟨rfl, fun u h => h⟩
      · exact ⟨rfl, fun u h => h⟩
      · exact ⟨rfl, fun u h => h⟩
      · exact ⟨rfl, fun u h => h⟩
      · exact Bool.noConfusion (hLi.symm.trans hj)
      · exact Bool.noConfusion (hLi.symm.trans (hcl 8 _ rfl hj 7 rfl))
      · exact Bool.noConfusion (hLi.symm.trans (hcl 8 _ rfl (hcl 9 _ rfl hj 8 rfl) 7 rfl))
      · exact ⟨rfl, fun u h => h⟩
    · intro L y a9 wx hSt hLi hdl hcl hold hdep K hK
      have HSt : Hid (StAp X l r (L 3) (L 7) y wx) := hSt; clear hSt; obtain ⟨v16, t16, q16⟩ := hdep 7 rfl _ 16 rfl rfl; have e16 : v16 = (.slice y.ad' (l.length + r.length) y.cp') := q16 rfl; subst e16; have e2 : L 7 = true := hdl 7 rfl; have hfl9 := ((HSt.out.app e2).flp (Nat.le_refl _)).list; rw [List.length_append] at hfl9; have HF9 : Hid (FL wx _ _) := hfl9; clear hfl9; clear hold hdep hdl; go_simp; refine (HPi.out _ wx HF9.out).mono ?_; rintro e w3 ⟨x, rfl, hx, hb3⟩; (refine hK.out _ _ y (HSt.out.up hb3) (by have hx2 := hx; obtain ⟨adx, cpx, rfl, -⟩ := hx2; exact ⟨adx, cpx, rfl, hx⟩) ?_); intro j hj hl
      rcases j with _ | _ | _ | _ | _ | _ | _ | _ | _ | _ | j
      · exact ⟨rfl, fun u h => h⟩
      · exact ⟨rfl, fun u h => h⟩
      · exact ⟨rfl, fun u h => h⟩
      · exact ⟨rfl, fun u h => h⟩
      · exact ⟨rfl, fun u h => h⟩
      · exact ⟨rfl, fun u h => h⟩
      · exact ⟨rfl, fun u h => h⟩
      · exact ⟨rfl, fun u h => h⟩
      · exact Bool.noConfusion (hLi.symm.trans hj)
      · exact Bool.noConfusion (hLi.symm.trans (hcl 9 _ rfl hj 8 rfl))
      · exact ⟨rfl, fun u h => h⟩
    · intro L y a9 wx hSt hLi hdl hcl hold hdep K hK
      have HSt : Hid (StAp X l r (L 3) (L 7) y wx) := hSt; clear hSt; obtain ⟨v17, t17, q17⟩ := hdep 8 rfl _ 17 rfl rfl; obtain ⟨adx, cpx, ex, hx⟩ := q17 rfl; subst ex; clear hold hdep hdl hcl hLi; go_simp; (exact hK.out _ _ y HSt.out ⟨adx, cpx, rfl, hx⟩ (fun j hj hl => ⟨rfl, fun u h => h⟩))
  · intro L y a9 wx hall hSt hsz hdf hold hgot
    have hS : StAp X l r (L 3) (L 7) y wx := hSt; have e1 : L 3 = true := hall 3 (Nat.le_of_ble_eq_true rfl); have e2 : L 7 = true := hall 7 (Nat.le_of_ble_eq_true rfl); rw [e1, e2] at hS; have hbX := hS.below; have haX := hS.app rfl; obtain ⟨v3, t3, q3⟩ := hgot 9 _ 3 rfl rfl; obtain ⟨adP, cpP, eP, hP⟩ := q3 rfl; subst eP; obtain ⟨tm, df⟩ := a9; (obtain ⟨ys, zs, hys, hzs, htm, rfl⟩ := frame_two 3 1 5 9 4 9 18 rfl rfl rfl (by kernel_rfl) (Nat.le_of_ble_eq_true rfl) ⟨hsz, hdf, hold⟩); obtain ⟨x3, rfl⟩ := rowX1 ys hys; obtain ⟨x9, x10, x11, x12, x13, x14, x15, x16, x17, rfl⟩ := rowX9 zs hzs; simp only [List.take_succ_cons, List.take_zero, List.drop_succ_cons, List.drop_zero, List.cons_append, List.nil_append] at htm; subst htm; obtain rfl : x3 = _ := someInjX t3; clear hys hzs hold hgot hall hSt hsz hdf t3 q3 hS e1 e2; have HFP0 : Hid (FL wx (.slice adP PP.length cpP) PP) := hP; have HBX0 : Hid (Below X.heap.size X wx) := hbX; clear hP hbX haX; obtain ⟨w4, hw4⟩ : ∃ w4, w4 = wx := ⟨_, rfl⟩; subst hw4; obtain ⟨j0, j1, j2, j3, j4, j5, j6⟩ := blk7 (below_keep HBX0.out X0.out); go_wp2_with fail; refine (HSt2.out _ (below_join HBX.out HBX0.out)).mono ?_; rintro e w5 ⟨ad4, cp4, ad5, cp5, rfl, hkf, hb5⟩; have HB5 : Hid (Below w.heap.size w w5) := below_join (below_join HBX.out HBX0.out) hb5; have HFP : Hid (FL w5 (.slice adP PP.length cpP) PP) := HFP0.out.up hb5
    have hkf' : KF (fun _ => True) 0 w5 ad4 cp4 (L0.map Prod.fst) := by
      obtain ⟨cs, ho, hp⟩ := hkf.low (Nat.zero_le _); (exact ⟨cs, ho, PQ.move (fun b _ h => ⟨rfl, trivial, h.2⟩) hp⟩)
    (obtain ⟨hc1, hc2, hc3⟩ := hkf'.rep fun _ _ => trivial); rw [List.length_map] at hc1; (have HC3 : Hid (L0.map Prod.fst ≠ [] → ∃ b off, ad4 = some ⟨b, off, none⟩ ∧ True ∧ PRps (fun _ => True) w5 b off (L0.map Prod.fst)) := hc3); clear hkf hkf' hc3 hb5 HSt2 j0 j1 j2 j3 j4 j5 j6 HFP0; go_wp2_with fail
    go_loopg [6] L0.length (fun gg cc wr => ∃ j0, j0 ≤ L0.length ∧ gg = L0.length - j0 ∧ cc = .int .i64 (j0 : Nat) ∧ Hid (Below w5.heap.size w5 wr))
    case atStart => exact ⟨0, by omega, by omega, rfl, Below.refl _ _⟩
    case round =>
      obtain ⟨j0, hj, hg, rfl, HBr⟩ := hrel; have HG : Hid (gk = L0.length - j0) := hg; clear hg; by_cases hlt : j0 < L0.length
      · obtain ⟨⟨⟨ka, ⟨kk, kn, kkf⟩, kl, kr, kks⟩, dj⟩, hki⟩ : ∃ f, L0[j0]? = some f := ⟨_, List.getElem?_eq_getElem hlt⟩
        (have hltI : (j0 : Int) < (L0.length : Int) := by omega); (have hlc : (j0 : Int) < (cp4 : Int) := by omega); (obtain ⟨b, off, rfl, -, hrs⟩ := HC3.out (fun e => by rw [List.map_eq_nil_iff] at e; rw [e] at hlt; simp at hlt)); (have hrs' : PRps (fun _ => True) wr b off (L0.map Prod.fst) := hrs.move trivial fun q hq hp => ⟨HBr.out.block q hq, hp⟩); (obtain ⟨sf2, cf2, al2, cl2, ar2, cr2, sl2, cap2, y0, y1, y2, y3, y4, y5, y6, hrep2⟩ := hrs'.at j0 ka kk kn kkf kl kr kks (by rw [List.getElem?_map, hki]; rfl)); have zb : b < wr.heap.size := lt_of_cell y0; obtain ⟨sf9, cf9, al9, cl9, ar9, cr9, sl9, cap9, e9, -, hrf9, hfl9, hfr9, -⟩ := (PRp.rep _ _ hrep2).parts; simp only [Value.agg.injEq, Array.mk.injEq, List.cons.injEq, Value.slice.injEq, true_and, and_true] at e9; obtain ⟨⟨rfl, rfl⟩, ⟨rfl, rfl⟩, ⟨rfl, rfl⟩, -⟩ := e9; have hx9 := HLx.out _ (List.mem_of_getElem? hki); have HAi : Hid ((∀ g ∈ kl ++ kr, g ∈ allNs EE) ∧ (ka.data.toList ≠ weakT → Fm.mk kk kn kkf ∈ allNs EE)) := hx9.2; have HKn : Hid (kl.length + kr.length ≤ 60) := hx9.1; (have HRk : Hid (Rep wr (fun _ => True) (.mk kk kn kkf) (.agg #[.int .i64 kk, .string kn, .slice sf2 kkf.length cf2])) := hrf9); have HLl : Hid (FLp (· < wr.heap.size) wr (.slice al2 kl.length cl2) kl) := hfl9.low; have HLr : Hid (FLp (· < wr.heap.size) wr (.slice ar2 kr.length cr2) kr) := hfr9.low; have HLn : Hid (kl.length + kr.length ≤ 60) := hx9.1; have HI : Hid (j0 < L0.length) := hlt; clear hki hrs hrs' hrep2 hrf9 hfl9 hfr9 hx9 hlt hj; obtain ⟨W, hW⟩ : ∃ W, W = wr := ⟨_, rfl⟩; subst hW; go_wp2_with fail; (refine wp_region_gh (by kernel_rfl) (by kernel_rfl) (by kernel_rfl) 70 rfl (by kernel_rfl) [fun _ v _ => v = (.slice (some ⟨b, off, none⟩) L0.length cp4), fun _ v _ => v = (.int .i64 (j0 : Nat)), fun _ v _ => v = (.pointer (some ⟨b, off + j0 * 7, none⟩)), fun _ v _ => v = (.pointer (some ⟨b, off + j0 * 7 + 4, none⟩)), fun _ v _ => v = (.pointer (some ⟨b, off + j0 * 7 + 4, none⟩)), fun _ v _ => v = (.slice al2 kl.length cl2), fun y v _ => v = (.slice y.ad kl.length y.cp), fun _ v _ => v = (.slice (some ⟨b, off, none⟩) L0.length cp4), fun _ v _ => v = (.int .i64 (j0 : Nat)), fun _ v _ => v = (.pointer (some ⟨b, off + j0 * 7, none⟩)), fun _ v _ => v = (.pointer (some ⟨b, off + j0 * 7 + 4, none⟩)), fun _ v _ => v = (.pointer (some ⟨b, off + j0 * 7 + 5, none⟩)), fun _ v _ => v = (.slice ar2 kr.length cr2), fun y v _ => v = (.slice y.ad' (kl.length + kr.length) y.cp'), fun y v _ => v = (.slice y.ad' (kl.length + kr.length) y.cp')] (fun _ _ => true) (fun L => StAp W kl kr (L 6) (L 13)) (GAp.none0) ?_ ?_ ?_)
        · exact fun wx h _ => ⟨h, fun e => (by cases e), fun e => (by cases e)⟩
        · refine ⟨?_, ?_, ?_, ?_, ?_, ?_, ?_, ?_, ?_, ?_, ?_, ?_, ?_, ?_, ?_, trivial⟩
          · intro L y a9 wx hSt hLi hdl hcl hold hdep K hK
            have HSt : Hid (StAp W kl kr (L 6) (L 13) y wx) := hSt; clear hSt; have t4 : a9.tmps[4]? = some (.slice (some ⟨b, off, none⟩) L0.length cp4) := hold 4 rfl; clear hold hdep hdl hcl hLi; go_simp; (exact hK.out _ _ y HSt.out rfl (fun j hj hl => ⟨hl, fun u h => h⟩))
          · intro L y a9 wx hSt hLi hdl hcl hold hdep K hK
            have HSt : Hid (StAp W kl kr (L 6) (L 13) y wx) := hSt; clear hSt; have t6 : a9.tmps[6]? = some (.int .i64 (j0 : Nat)) := hold 6 rfl; clear hold hdep hdl hcl hLi; go_simp; (exact hK.out _ _ y HSt.out rfl (fun j hj hl => ⟨hl, fun u h => h⟩))
          · intro L y a9 wx hSt hLi hdl hcl hold hdep K hK
            have HSt : Hid (StAp W kl kr (L 6) (L 13) y wx) := hSt; clear hSt; obtain ⟨v29, t29, q29⟩ := hdep 0 rfl _ 29 rfl rfl; have e29 : v29 = (.slice (some ⟨b, off, none⟩) L0.length cp4) := q29 rfl; subst e29; obtain ⟨v30, t30, q30⟩ := hdep 1 rfl _ 30 rfl rfl; have e30 : v30 = (.int .i64 (j0 : Nat)) := q30 rfl; subst e30; clear hold hdep hdl hcl hLi; go_simp; (exact hK.out _ _ y HSt.out rfl (fun j hj hl => ⟨hl, fun u h => h⟩))
          · intro L y a9 wx hSt hLi hdl hcl hold hdep K hK
            have HSt : Hid (StAp W kl kr (L 6) (L 13) y wx) := hSt; clear hSt; obtain ⟨v31, t31, q31⟩ := hdep 2 rfl _ 31 rfl rfl; have e31 : v31 = (.pointer (some ⟨b, off + j0 * 7, none⟩)) := q31 rfl; subst e31; clear hold hdep hdl hcl hLi; go_simp; (exact hK.out _ _ y HSt.out rfl (fun j hj hl => ⟨hl, fun u h => h⟩))
          · intro L y a9 wx hSt hLi hdl hcl hold hdep K hK
            have HSt : Hid (StAp W kl kr (L 6) (L 13) y wx) := hSt; clear hSt; obtain ⟨v32, t32, q32⟩ := hdep 3 rfl _ 32 rfl rfl; have e32 : v32 = (.pointer (some ⟨b, off + j0 * 7 + 4, none⟩)) := q32 rfl; subst e32; clear hold hdep hdl hcl hLi; go_simp; (exact hK.out _ _ y HSt.out rfl (fun j hj hl => ⟨hl, fun u h => h⟩))
          · intro L y a9 wx hSt hLi hdl hcl hold hdep K hK
            have HSt : Hid (StAp W kl kr (L 6) (L 13) y wx) := hSt; clear hSt; obtain ⟨v33, t33, q33⟩ := hdep 4 rfl _ 33 rfl rfl; have e33 : v33 = (.pointer (some ⟨b, off + j0 * 7 + 4, none⟩)) := q33 rfl; subst e33; have d4 := (HSt.out.below.cell (p := ⟨b, off + j0 * 7 + 4, none⟩) zb).trans y4; have d5 := (HSt.out.below.cell (p := ⟨b, off + j0 * 7 + 5, none⟩) zb).trans y5; clear hold hdep hdl hcl hLi; go_simp; (exact hK.out _ _ y HSt.out rfl (fun j hj hl => ⟨hl, fun u h => h⟩))
          · intro L y a9 wx hSt hLi hdl hcl hold hdep K hK
            have HSt : Hid (StAp W kl kr (L 6) (L 13) y wx) := hSt; clear hSt; obtain ⟨v34, t34, q34⟩ := hdep 5 rfl _ 34 rfl rfl; have e34 : v34 = (.slice al2 kl.length cl2) := q34 rfl; subst e34; (have e2 : L 13 = false := not_yet hLi fun h => hcl 13 _ rfl h 6 rfl); have hzw := HSt.out.below.size; clear hold hdep hdl; (refine step_appF rfl _ _ rfl W.heap.size W.heap.size [] kl none 0 _ rfl AppL.nil (eval_tmpX t34) (HLl.out.up HSt.out.below) (Nat.le_refl _) hzw (by have := HLn.out; simp; omega) ?_); intro ad3 cp3 w3 h3 b3 k3; refine hK.out _ _ { y with ad := ad3, cp := cp3 } (HSt.out.mine e2 b3 h3) rfl ?_; intro j hj hl
            rcases j with _ | _ | _ | _ | _ | _ | _ | _ | _ | _ | _ | _ | _ | _ | _ | j
            · exact ⟨rfl, fun u h => h⟩
            · exact ⟨rfl, fun u h => h⟩
            · exact ⟨rfl, fun u h => h⟩
            · exact ⟨rfl, fun u h => h⟩
            · exact ⟨rfl, fun u h => h⟩
            · exact ⟨rfl, fun u h => h⟩
            · exact Bool.noConfusion (hLi.symm.trans hj)
            · exact ⟨rfl, fun u h => h⟩
            · exact ⟨rfl, fun u h => h⟩
            · exact ⟨rfl, fun u h => h⟩
            · exact ⟨rfl, fun u h => h⟩
            · exact ⟨rfl, fun u h => h⟩
            · exact ⟨rfl, fun u h => h⟩
            · exact Bool.noConfusion (hLi.symm.trans (hcl 13 _ rfl hj 6 rfl))
            · exact Bool.noConfusion (hLi.symm.trans (hcl 13 _ rfl (hcl 14 _ rfl hj 13 rfl) 6 rfl))
            · exact ⟨rfl, fun u h => h⟩
          · intro L y a9 wx hSt hLi hdl hcl hold hdep K hK
            have HSt : Hid (StAp W kl kr (L 6) (L 13) y wx) := hSt; clear hSt; have t4 : a9.tmps[4]? = some (.slice (some ⟨b, off, none⟩) L0.length cp4) := hold 4 rfl; clear hold hdep hdl hcl hLi; go_simp; (exact hK.out _ _ y HSt.out rfl (fun j hj hl => ⟨hl, fun u h => h⟩))
          · intro L y a9 wx hSt hLi hdl hcl hold hdep K hK
            have HSt : Hid (StAp W kl kr (L 6) (L 13) y wx) := hSt; clear hSt; have t6 : a9.tmps[6]? = some (.int .i64 (j0 : Nat)) := hold 6 rfl; clear hold hdep hdl hcl hLi; go_simp; (exact hK.out _ _ y HSt.out rfl (fun j hj hl => ⟨hl, fun u h => h⟩))
          · intro L y a9 wx hSt hLi hdl hcl hold hdep K hK
            have HSt : Hid (StAp W kl kr (L 6) (L 13) y wx) := hSt; clear hSt; obtain ⟨v36, t36, q36⟩ := hdep 7 rfl _ 36 rfl rfl; have e36 : v36 = (.slice (some ⟨b, off, none⟩) L0.length cp4) := q36 rfl; subst e36; obtain ⟨v37, t37, q37⟩ := hdep 8 rfl _ 37 rfl rfl; have e37 : v37 = (.int .i64 (j0 : Nat)) := q37 rfl; subst e37; clear hold hdep hdl hcl hLi; go_simp; (exact hK.out _ _ y HSt.out rfl (fun j hj hl => ⟨hl, fun u h => h⟩))
          · intro L y a9 wx hSt hLi hdl hcl hold hdep K hK
            have HSt : Hid (StAp W kl kr (L 6) (L 13) y wx) := hSt; clear hSt; obtain ⟨v38, t38, q38⟩ := hdep 9 rfl _ 38 rfl rfl; have e38 : v38 = (.pointer (some ⟨b, off + j0 * 7, none⟩)) := q38 rfl; subst e38; clear hold hdep hdl hcl hLi; go_simp; (exact hK.out _ _ y HSt.out rfl (fun j hj hl => ⟨hl, fun u h => h⟩))
          · intro L y a9 wx hSt hLi hdl hcl hold hdep K hK
            have HSt : Hid (StAp W kl kr (L 6) (L 13) y wx) := hSt; clear hSt; obtain ⟨v39, t39, q39⟩ := hdep 10 rfl _ 39 rfl rfl; have e39 : v39 = (.pointer (some ⟨b, off + j0 * 7 + 4, none⟩)) := q39 rfl; subst e39; clear hold hdep hdl hcl hLi; go_simp; (exact hK.out _ _ y HSt.out rfl (fun j hj hl => ⟨hl, fun u h => h⟩))
          · intro L y a9 wx hSt hLi hdl hcl hold hdep K hK
            have HSt : Hid (StAp W kl kr (L 6) (L 13) y wx) := hSt; clear hSt; obtain ⟨v40, t40, q40⟩ := hdep 11 rfl _ 40 rfl rfl; have e40 : v40 = (.pointer (some ⟨b, off + j0 * 7 + 5, none⟩)) := q40 rfl; subst e40; have d4 := (HSt.out.below.cell (p := ⟨b, off + j0 * 7 + 4, none⟩) zb).trans y4; have d5 := (HSt.out.below.cell (p := ⟨b, off + j0 * 7 + 5, none⟩) zb).trans y5; clear hold hdep hdl hcl hLi; go_simp; (exact hK.out _ _ y HSt.out rfl (fun j hj hl => ⟨hl, fun u h => h⟩))
          · intro L y a9 wx hSt hLi hdl hcl hold hdep K hK
            have HSt : Hid (StAp W kl kr (L 6) (L 13) y wx) := hSt; clear hSt; obtain ⟨v35, t35, q35⟩ := hdep 6 rfl _ 35 rfl rfl; have e35 : v35 = (.slice y.ad kl.length y.cp) := q35 rfl; subst e35; obtain ⟨v41, t41, q41⟩ := hdep 12 rfl _ 41 rfl rfl; have e41 : v41 = (.slice ar2 kr.length cr2) := q41 rfl; subst e41; have e1 : L 6 = true := hdl 6 rfl; have hzw := HSt.out.below.size; clear hold hdep hdl; (refine step_appF rfl _ _ rfl W.heap.size W.heap.size kl kr y.ad y.cp _ (eval_tmpX t35) (HSt.out.own e1 hLi) (eval_tmpX t41) (HLr.out.up HSt.out.below) (Nat.le_refl _) hzw (by have := HLn.out; omega) ?_); intro ad3 cp3 w3 h3 b3 k3; rw [List.length_append]; refine hK.out _ _ { y with ad' := ad3, cp' := cp3 } (HSt.out.both b3 h3) rfl ?_; intro j hj hl
            rcases j with _ | _ | _ | _ | _ | _ | _ | _ | _ | _ | _ | _ | _ | _ | _ | j
            · exact ⟨rfl, fun u h => h⟩
            · exact ⟨rfl, fun u h => h⟩
            · exact ⟨rfl, fun u h => h⟩
            · exact ⟨rfl, fun u h => h⟩
            · exact ⟨rfl, fun u h => h⟩
            · exact ⟨rfl, fun u h => h⟩
            · exact ⟨rfl, fun u h => h⟩
            · exact ⟨rfl, fun u h => h⟩
            · exact ⟨rfl, fun u h => h⟩
            · exact ⟨rfl, fun u h => h⟩
            · exact ⟨rfl, fun u h => h⟩
            · exact ⟨rfl, fun u h => h⟩
            · exact ⟨rfl, fun u h => h⟩
            · exact Bool.noConfusion (hLi.symm.trans hj)
            · exact Bool.noConfusion (hLi.symm.trans (hcl 14 _ rfl hj 13 rfl))
            · exact ⟨rfl, fun u h => h⟩
          · intro L y a9 wx hSt hLi hdl hcl hold hdep K hK
            have HSt : Hid (StAp W kl kr (L 6) (L 13) y wx) := hSt; clear hSt; obtain ⟨v42, t42, q42⟩ := hdep 13 rfl _ 42 rfl rfl; have e42 : v42 = (.slice y.ad' (kl.length + kr.length) y.cp') := q42 rfl; subst e42; clear hold hdep hdl hcl hLi; go_simp; (exact hK.out _ _ y HSt.out rfl (fun j hj hl => ⟨hl, fun u h => h⟩))
        · intro L y a9 wx hall hSt hsz hdf hold hgot
          have hS : StAp W kl kr (L 6) (L 13) y wx := hSt; have e1 : L 6 = true := hall 6 (Nat.le_of_ble_eq_true rfl); have e2 : L 13 = true := hall 13 (Nat.le_of_ble_eq_true rfl); rw [e1, e2] at hS; have hbX := hS.below; have haX := hS.app rfl; obtain ⟨v7, t7, q7⟩ := hgot 14 _ 7 rfl rfl; have eA : v7 = (.slice y.ad' (kl.length + kr.length) y.cp') := q7 rfl; subst eA; obtain ⟨tm, df⟩ := a9; (obtain ⟨ys, zs, hys, hzs, htm, rfl⟩ := frame_two 7 1 21 14 8 29 43 rfl rfl rfl (by kernel_rfl) (Nat.le_of_ble_eq_true rfl) ⟨hsz, hdf, hold⟩); obtain ⟨x7, rfl⟩ := rowX1 ys hys; obtain ⟨x29, x30, x31, x32, x33, x34, x35, x36, x37, x38, x39, x40, x41, x42, rfl⟩ := rowX14 zs hzs; simp only [List.take_succ_cons, List.take_zero, List.drop_succ_cons, List.drop_zero, List.cons_append, List.nil_append] at htm; subst htm; obtain rfl : x7 = _ := someInjX t7; clear hys hzs hold hgot hall hSt hsz hdf t7 q7 hS e1 e2; obtain ⟨ad9, cp9, adX, cpX⟩ := y; have HAX : Hid (AppL W.heap.size W.heap.size (kl ++ kr) adX cpX wx) := haX; have HBX : Hid (Below W.heap.size W wx) := hbX; clear haX hbX; have y0' := (HBX.out.cell (p := ⟨b, off + j0 * 7, none⟩) zb).trans y0; have y1' := (HBX.out.cell (p := ⟨b, off + j0 * 7 + 1, none⟩) zb).trans y1; have y2' := (HBX.out.cell (p := ⟨b, off + j0 * 7 + 2, none⟩) zb).trans y2; have y3' := (HBX.out.cell (p := ⟨b, off + j0 * 7 + 3, none⟩) zb).trans y3; by_cases hwk : ka.data.toList = weakT
          · have hae : ka = ⟨#[119, 101, 97, 107]⟩ := by
              obtain ⟨kd⟩ := ka; have : kd = #[119, 101, 97, 107] := Array.ext' hwk; rw [this]
            obtain ⟨LL, hLL⟩ : ∃ LL, LL = kl ++ kr := ⟨_, rfl⟩; have hfl := ((HAX.out).flp (Nat.le_refl _)).list; rw [← hLL] at hfl; have HFl : Hid (FL wx (.slice adX LL.length cpX) LL) := hfl; (have HAl : Hid (∀ g ∈ LL, hasF g PP = true) := fun g hg => HPp.out g (HAi.out.1 g (by rw [← hLL]; exact hg))); (have HLL : Hid (LL.length ≤ 100) := by have := HKn.out; rw [hLL, List.length_append]; show _ ≤ _; omega); (have hlL : kl.length + kr.length = LL.length := by rw [hLL, List.length_append]); rw [hlL]; obtain ⟨F, hF⟩ : ∃ F, F = wx := ⟨_, rfl⟩; subst hF; obtain ⟨adl, hadl⟩ : ∃ x, x = adX := ⟨_, rfl⟩; obtain ⟨cpl, hcpl⟩ : ∃ x, x = cpX := ⟨_, rfl⟩; subst hadl hcpl; have HBF : Hid (Below w5.heap.size w5 F) := below_join HBr.out HBX.out; subst hae; clear hLL hlL hwk hfl y1' y2' y3'; go_wp2_with fail; obtain ⟨adz, cpz, ez, hz1, hz2, hz3⟩ := HFl.out; simp only [Value.slice.injEq, true_and] at ez; obtain ⟨ez1, ez2⟩ := ez; subst ez1 ez2; (have HZ3 : Hid (LL ≠ [] → ∃ b off, adl = some ⟨b, off, none⟩ ∧ Reps F (fun _ => True) b off LL) := hz3); (have hLlI : (LL.length : Int) ≤ 1000 := by have := HLL.out; omega); (have hLcI : (LL.length : Int) ≤ (cpl : Int) := by omega); clear hz1 hz2 hz3
            go_loopg [8] LL.length (fun gg cc wr => ∃ q, q ≤ LL.length ∧ gg = LL.length - q ∧ cc = .int .i64 (q : Nat) ∧ Hid (Below F.heap.size F wr))
            case atStart => exact ⟨0, by omega, by omega, rfl, Below.refl _ _⟩
            case round =>
              obtain ⟨q, hq, hgq, rfl, HBq⟩ := hrel; have HGq : Hid (gk = LL.length - q) := hgq; clear hgq; by_cases hltq : q < LL.length
              · obtain ⟨⟨kq, nq, ksq⟩, hqi⟩ : ∃ f, LL[q]? = some f := ⟨_, List.getElem?_eq_getElem hltq⟩
                (obtain ⟨bq, offq, rfl, hrq⟩ := HZ3.out (fun e => by rw [e] at hltq; simp at hltq)); obtain ⟨slq, cpq, g0, g1, g2, hrepq⟩ := (hrq.up HBq.out).at q kq nq ksq hqi; (have hltqI : (q : Int) < (LL.length : Int) := by omega); (have hltqc : (q : Int) < (cpl : Int) := by omega); have hhs := has_any PP (.mk kq nq ksq) _ _ _ (HFP.out.up (below_join HBF.out HBq.out)) hrepq; rw [HAl.out _ (List.mem_of_getElem? hqi)] at hhs; (have HH : Hid (Calls Try.prog 37 _ _ fun e w' => e = .returned (.bool true) ∧ Below wr.heap.size wr w') := hhs); have HIq : Hid (q < LL.length) := hltq; clear hhs hrepq hrq hqi hltq hq; go_wp2_with fail; refine HH.out.mono ?_; rintro e w8 ⟨rfl, hb8⟩; have HB8 : Hid (Below F.heap.size F w8) := below_join HBq.out hb8; clear hb8 g0 g1 g2 HH; go_wp2_with fail
                go_roundg (LL.length - (q + 1))
                case measure => have := HGq.out; have := HIq.out; omega
                case rel => exact ⟨q + 1, HIq.out, rfl, by go_num, HB8⟩
              · have hqq : q = LL.length := by omega
                subst hqq; (have hgeq : ¬ (LL.length : Int) < (LL.length : Int) := by omega); clear hltq hq; go_wp2_with fail
                go_roundg (L0.length - (j0 + 1))
                case measure => have := HG.out; have := HI.out; omega
                case rel => exact ⟨j0 + 1, HI.out, rfl, by go_num, below_join HBF.out HBq.out⟩
          · have hq9 : (ka.toList == ([119, 101, 97, 107] : List UInt8)) = false := by rw [ByteArray.toList_eq]; simpa [weakT] using hwk
            have HAf : Hid (Fm.mk kk kn kkf ∈ allNs EE) := HAi.out.2 hwk; obtain ⟨i0, hi0, hz0, hz1', hz2'⟩ := infoFormula; (have HKP : Hid (KP (fun _ => True) W.heap.size wx adX cpX (kl ++ kr)) := appL_kp HAX.out); (have HRf9 : Hid (Rep wx (fun b => b < W.heap.size) (.mk kk kn kkf) (.agg #[.int .i64 kk, .string kn, .slice sf2 kkf.length cf2])) := HRk.out.move fun b hb _ => ⟨HBX.out.block b hb, hb⟩); (have hLkI : ((kl ++ kr).length : Int) ≤ 100 := by have := HKn.out; rw [List.length_append]; omega); (have HLk : Hid ((kl ++ kr).length ≤ 100) := by have := HKn.out; rw [List.length_append]; show _ ≤ _; omega); have hzX := HBX.out.size; obtain ⟨KR, hKR⟩ : ∃ KR, KR = kl ++ kr := ⟨_, rfl⟩; have HKR : Hid (KR = kl ++ kr) := hKR; (have hkR2 : kl.length + kr.length = KR.length := by rw [hKR, List.length_append]); rw [← hKR] at HKP HLk hLkI; rw [hkR2]; clear hKR hwk hkR2
            go_wp2_with (first
              | (at_builtin
                 have hownA := HKP.out.up ((Below.refl _ wx).alloc (Nat.le_refl _) (.cells #[.int .i64 kk, .string kn, .slice sf2 kkf.length cf2] 24 (0, 0))); obtain ⟨cs, hown, hlq⟩ := hownA; (refine wpList_append_lies _ rfl _ _ 22 rfl W.heap.size 24 i0 (.agg #[.int .i64 0, .string ⟨#[]⟩, .slice none 0 0]) 3 48 Try.underlying22 hi0 hz0 hz1' hz2' rfl (by decide) _ _ _ rfl hown ⟨wx.heap.size, 0, none⟩ 1 1 [.int .i64 kk, .string kn, .slice sf2 kkf.length cf2] rfl rfl ?_ ?_ (by omega) (by have := HLk.out; unfold maxLen; omega) (by have := HLk.out; omega) (by simp; omega) _ rfl ?_)
                 · intro j u hu
                   rw [add_none, Nat.zero_add, blk_cell (blk_new wx _)]; simpa using hu
                 · intro u hu
                   simp at hu
                   rcases hu with rfl | rfl | rfl <;> rfl
                 intro g3 cp3 w3 hown3 hgrow hat hlt3; have hgrow' : (wx.alloc (.cells #[.int .i64 kk, .string kn, .slice sf2 kkf.length cf2] 24 (0, 0))).grownBy w3 (Value.slice adX KR.length cpX).ownBlock := hgrow; have hat' : (Value.slice adX KR.length cpX).ownBlock = some g3 ∨ g3 = (wx.alloc (.cells #[.int .i64 kk, .string kn, .slice sf2 kkf.length cf2] 24 (0, 0))).heap.size := hat; clear hgrow hat; (obtain ⟨hbB, hko⟩ := KP.app rfl (by omega) hown hlq (HRf9.out.move fun b _ hb => ⟨rfl, trivial, fun e => by have := (hown.lt b e).1; have : b < W.heap.size := hb; omega⟩) hown3 hgrow' hat'); (have HFl : Hid (FL w3 (.slice (some ⟨g3, 0, none⟩) (KR ++ [Fm.mk kk kn kkf]).length cp3) (KR ++ [.mk kk kn kkf])) := hko.list fun _ _ => trivial); have HB3 : Hid (Below W.heap.size W w3) := HBX.out.trans hbB
                 clear hgrow' hat' hown3 hown hlq hko hbB)
              | fail)
            obtain ⟨LL, hLL⟩ : ∃ LL, LL = KR ++ [Fm.mk kk kn kkf] := ⟨_, rfl⟩; (have hlL : KR.length + 1 = LL.length := by rw [hLL]; simp); rw [← hLL] at HFl
            have HAl : Hid (∀ g ∈ LL, hasF g PP = true) := fun g hg => by
              rw [hLL] at hg
              rcases List.mem_append.1 hg with hg | hg
              · exact HPp.out g (HAi.out.1 g (by rw [← HKR.out]; exact hg))
              · simp at hg; subst hg; exact HPp.out _ HAf.out
            (have HLL : Hid (LL.length ≤ 200) := by have := HLk.out; show _ ≤ _; omega); obtain ⟨F, hF⟩ : ∃ F, F = w3 := ⟨_, rfl⟩; subst hF; obtain ⟨adl, hadl⟩ : ∃ x, x = some (⟨g3, 0, none⟩ : Addr) := ⟨_, rfl⟩; obtain ⟨cpl, hcpl⟩ : ∃ x, x = cp3 := ⟨_, rfl⟩; rw [← hadl] at HFl
            first | rw [← hadl, hlL] | rw [hlL]
            subst hcpl; have HBF : Hid (Below w5.heap.size w5 F) := below_join HBr.out HB3.out; clear hLL hlL hadl y1' y2' y3'; go_wp2_with fail; obtain ⟨adz, cpz, ez, hz1, hz2, hz3⟩ := HFl.out; simp only [Value.slice.injEq, true_and] at ez; obtain ⟨ez1, ez2⟩ := ez; subst ez1 ez2; (have HZ3 : Hid (LL ≠ [] → ∃ b off, adl = some ⟨b, off, none⟩ ∧ Reps F (fun _ => True) b off LL) := hz3); (have hLlI : (LL.length : Int) ≤ 1000 := by have := HLL.out; omega); (have hLcI : (LL.length : Int) ≤ (cpl : Int) := by omega); clear hz1 hz2 hz3
            go_loopg [8] LL.length (fun gg cc wr => ∃ q, q ≤ LL.length ∧ gg = LL.length - q ∧ cc = .int .i64 (q : Nat) ∧ Hid (Below F.heap.size F wr))
            case atStart => exact ⟨0, by omega, by omega, rfl, Below.refl _ _⟩
            case round =>
              obtain ⟨q, hq, hgq, rfl, HBq⟩ := hrel; have HGq : Hid (gk = LL.length - q) := hgq; clear hgq; by_cases hltq : q < LL.length
              · obtain ⟨⟨kq, nq, ksq⟩, hqi⟩ : ∃ f, LL[q]? = some f := ⟨_, List.getElem?_eq_getElem hltq⟩
                (obtain ⟨bq, offq, rfl, hrq⟩ := HZ3.out (fun e => by rw [e] at hltq; simp at hltq)); obtain ⟨slq, cpq, g0, g1, g2, hrepq⟩ := (hrq.up HBq.out).at q kq nq ksq hqi; (have hltqI : (q : Int) < (LL.length : Int) := by omega); (have hltqc : (q : Int) < (cpl : Int) := by omega); have hhs := has_any PP (.mk kq nq ksq) _ _ _ (HFP.out.up (below_join HBF.out HBq.out)) hrepq; rw [HAl.out _ (List.mem_of_getElem? hqi)] at hhs; (have HH : Hid (Calls Try.prog 37 _ _ fun e w' => e = .returned (.bool true) ∧ Below wr.heap.size wr w') := hhs); have HIq : Hid (q < LL.length) := hltq; clear hhs hrepq hrq hqi hltq hq; go_wp2_with fail; refine HH.out.mono ?_; rintro e w8 ⟨rfl, hb8⟩; have HB8 : Hid (Below F.heap.size F w8) := below_join HBq.out hb8; clear hb8 g0 g1 g2 HH; go_wp2_with fail
                go_roundg (LL.length - (q + 1))
                case measure => have := HGq.out; have := HIq.out; omega
                case rel => exact ⟨q + 1, HIq.out, rfl, by go_num, HB8⟩
              · have hqq : q = LL.length := by omega
                subst hqq; (have hgeq : ¬ (LL.length : Int) < (LL.length : Int) := by omega); clear hltq hq; go_wp2_with fail
                go_roundg (L0.length - (j0 + 1))
                case measure => have := HG.out; have := HI.out; omega
                case rel => exact ⟨j0 + 1, HI.out, rfl, by go_num, below_join HBF.out HBq.out⟩
      · have hii : j0 = L0.length := by omega
        subst hii; (have hge : ¬ (L0.length : Int) < (L0.length : Int) := by omega); clear hlt hj; go_wp2_with fail; go_ret; exact ⟨rfl, below_join HB5.out HBr.out⟩
end Go.Proofs.Ytffkoiemnchdgae
/- Walks: CutParts. -/
namespace Go.Proofs.Ytffkoiemnchdgae
open Go.RowKit

theorem goodS_smallY : ∀ (n : Nat) (p : Pf), p.size < n → GoodS p → SmallP p
  | 0, p, h, _ => by omega
  | n + 1, .mk a f l r ks, h, hg => by
    obtain ⟨-, h1, h2, -, -, h3, h4⟩ := hg.parts; rw [Pf.size] at h; (refine SmallP.mk h1 h2 h3 fun k hk => ?_); obtain ⟨i, hi⟩ := List.getElem?_of_mem hk; have := pfsizes_get hi; (exact goodS_smallY n k (by omega) (h4 i k hi))

set_option maxRecDepth 10000 in
set_option maxHeartbeats 8000000 in
theorem parts_law (i : Bool) (p : Pf) (v : Value) (w : World) (hv : PRep w p v) :
    Calls Try.prog 3 #[v, .bool i] w fun e w' => e = .returned (.bool true) ∧ Below w.heap.size w w' := by
  have HV : Hid (PRep w p v) := hv; (have HVa : Hid (∀ W, Below w.heap.size w W → Calls Try.prog 9 #[v, .int .i64 0] W fun e w' => IsVG p e ∧ Below W.heap.size W w') := fun W hb => pvastg_any p v W (PRep.up hb _ _ hv)); (have HMe : Hid (SmallP p → ∀ W, Below w.heap.size w W → Calls Try.prog 10 #[v, .bool i] W _) := fun hs W hb => measure_any i p hs v W (PRep.up hb _ _ hv)); (have HIn : Hid (SmallP p → (look i p 1 0 0).1.1 = 0 → (meas i p).2.2 = 0 → ∀ W, Below w.heap.size w W → Calls Try.prog 11 #[v] W fun e w' => e = .returned (.bool true) ∧ Below W.heap.size W w') := fun hs h0 hr W hb => inEnd_any i p hs h0 hr v W (PRep.up hb _ _ hv)); (have HGs : Hid (GoodS p → SmallP p) := fun h => goodS_smallY _ p (Nat.lt_succ_self _) h); generalize (look i p 1 0 0).1.1 = c at *; generalize measA i p = a9 at *; generalize meas i p = M at *; obtain ⟨M1, M2, M3v⟩ := M; obtain ⟨a, ⟨k, n, kf⟩, l, r, ks⟩ := p; obtain ⟨sf, cf, al, cl, ar, cr, sl, cap, rfl, -⟩ := hv.parts; have HB0 : Hid (Below w.heap.size w (w.alloc (.cells #[.string a, .int .i64 k, .string n, .slice sf kf.length cf, .slice al l.length cl, .slice ar r.length cr, .slice sl ks.length cap] 29 (0, 0)))) := below_more (Below.refl _ w) _; have P0 : Hid ((w.alloc (.cells #[.string a, .int .i64 k, .string n, .slice sf kf.length cf, .slice al l.length cl, .slice ar r.length cr, .slice sl ks.length cap] 29 (0, 0))).heap[w.heap.size]? = some (.cells #[.string a, .int .i64 k, .string n, .slice sf kf.length cf, .slice al l.length cl, .slice ar r.length cr, .slice sl ks.length cap] 29 (0, 0))) := blk_new w _; clear hv
  go_enter Try.func3, Try.ntmps3
  go_wp2_with fail; refine (cutBegun_any _).mono ?_; rintro e w1 ⟨rfl, hb1⟩; have HB1 : Hid (Below w.heap.size w w1) := below_join HB0.out hb1; have Q0 : Hid (w1.heap[w.heap.size]? = some (.cells #[.string a, .int .i64 k, .string n, .slice sf kf.length cf, .slice al l.length cl, .slice ar r.length cr, .slice sl ks.length cap] 29 (0, 0))) := below_keep hb1 P0.out; clear hb1 P0 HB0; obtain ⟨j0, j1, j2, j3, j4, j5, j6⟩ := blk7 Q0.out; go_wp2_with fail; refine (HVa.out _ HB1.out).mono ?_; rintro e w2 ⟨⟨bb, rfl, hbb⟩, hb2⟩; have HB2 : Hid (Below w.heap.size w w2) := below_join HB1.out hb2; have R0 : Hid (w2.heap[w.heap.size]? = some (.cells #[.string a, .int .i64 k, .string n, .slice sf kf.length cf, .slice al l.length cl, .slice ar r.length cr, .slice sl ks.length cap] 29 (0, 0))) := below_keep hb2 Q0.out; clear hb2 HVa j0 j1 j2 j3 j4 j5 j6 Q0 HB1
  cases bb
  case true =>
    clear hbb; go_wp2_with fail; go_ret; exact ⟨rfl, HB2.out⟩
  have hsm := HGs.out (hbb rfl); (have HMe2 : Hid (∀ W, Below w.heap.size w W → Calls Try.prog 10 _ W fun e w' => e = .returned (.tuple #[.int .i64 (M1 : Nat), .int .i64 (M2 : Nat), .int .i64 (M3v : Nat), .agg #[.int .i64 c, .int .i64 a9]]) ∧ Below W.heap.size W w') := HMe.out hsm); have HSm : Hid (SmallP (.mk a (.mk k n kf) l r ks)) := hsm; clear hbb hsm HMe HGs; obtain ⟨j0, j1, j2, j3, j4, j5, j6⟩ := blk7 R0.out; go_wp2_with fail; refine (HMe2.out _ HB2.out).mono ?_; rintro e w3 ⟨rfl, hb3⟩; have HB3 : Hid (Below w.heap.size w w3) := below_join HB2.out hb3; have S0 : Hid (w3.heap[w.heap.size]? = some (.cells #[.string a, .int .i64 k, .string n, .slice sf kf.length cf, .slice al l.length cl, .slice ar r.length cr, .slice sl ks.length cap] 29 (0, 0))) := below_keep hb3 R0.out; clear hb3 HMe2 j0 j1 j2 j3 j4 j5 j6 R0 HB2; obtain ⟨X, hX⟩ : ∃ X, X = w3.alloc (.cells #[.int .i64 c, .int .i64 a9] 33 (0, 0)) := ⟨_, rfl⟩; (have hbX : Below w3.heap.size w3 X := by rw [hX]; exact below_more (Below.refl _ w3) _); (have X8 : Hid (X.heap[w3.heap.size]? = some (.cells #[.int .i64 c, .int .i64 a9] 33 (0, 0))) := by rw [hX]; exact blk_new w3 _); have X0 : Hid (X.heap[w.heap.size]? = some (.cells #[.string a, .int .i64 k, .string n, .slice sf kf.length cf, .slice al l.length cl, .slice ar r.length cr, .slice sl ks.length cap] 29 (0, 0))) := below_keep hbX S0.out; have HBX : Hid (Below w.heap.size w X) := below_join HB3.out hbX; obtain ⟨j0, j1, j2, j3, j4, j5, j6⟩ := blk7 X0.out; obtain ⟨b8, hb8⟩ : ∃ b, b = w3.heap.size := ⟨_, rfl⟩; rw [← hb8] at X8
  go_upto_region 6 with fail
  rw [← hX, ← hb8]; clear hX hbX hb8 S0 HB3; obtain ⟨e0, e1, -⟩ := blk2 X8.out; by_cases hc : c = 0
  · subst hc
    by_cases hr : M3v = 0
    · subst hr
      (have HIn2 : Hid (∀ W, Below w.heap.size w W → Calls Try.prog 11 _ W fun e w' => e = .returned (.bool true) ∧ Below W.heap.size W w') := HIn.out HSm.out rfl rfl); clear HIn; go_wp2_with fail; refine (HIn2.out _ HBX.out).mono ?_; rintro e w9 ⟨rfl, hb9⟩; have HB9 : Hid (Below w.heap.size w w9) := below_join HBX.out hb9; clear hb9; go_wp2_with fail; go_ret; exact ⟨rfl, HB9.out⟩
    · have hr2 : (0 : Int) < (M3v : Int) := by omega
      clear HIn hr; go_wp2_with fail; go_ret; exact ⟨rfl, HBX.out⟩
  · have hcn : (c != 0) = true := by simpa using hc
    clear HIn hc; go_wp2_with fail; go_ret; exact ⟨rfl, HBX.out⟩
end Go.Proofs.Ytffkoiemnchdgae
