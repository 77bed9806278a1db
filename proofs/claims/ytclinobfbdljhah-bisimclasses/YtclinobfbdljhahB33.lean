/- Texts of one proof, one behind the other: SBC, SBD. -/
import Derived.Test.YtclinobfbdljhahB29
import Derived.Test.YtclinobfbdljhahB24
import Derived.Deep.OwnRows
import Derived.Deep.CutRange
/- Walks: the classes of a view's worlds. -/
namespace Go.Proofs.Ytclinobfbdljhah
open Go.RowKit

/-- The classes of worlds with these names. -/
def clsK (N : Nat) (R : Nat → Nat → Bool) (nss : List (List (List UInt8))) : List Nat := lastK N R (byN nss)
set_option maxRecDepth 10000 in
set_option maxHeartbeats 4000000 in
theorem vclasses_any {N : Nat} (h0 : 0 < N) (hN : N ≤ 40) (R : Nat → Nat → Bool) (nss : List (List (List UInt8))) (hns : ∀ r ∈ nss, r.length ≤ 30 ∧ ∀ t ∈ r, t.length ≤ 8) (v : Value) (w : World) (hv : VwR w N R nss v) :
    Calls Try.prog 40 #[v] w fun e w' => ∃ ad cp, e = .returned (.slice ad N cp) ∧ OwnN w.heap.size w' ad cp (clsK N R nss) ∧ Below w.heap.size w w' := by
  (have hnl : nss.length = N := by obtain ⟨_, _, -, -, h, -⟩ := hv; exact h); (have hbl : (byN nss).length = N := by rw [byN, numK_len, List.length_map, hnl]); (have HLe : Hid (∀ k, EndK N R (byN nss) k → levK N R (byN nss) (k + 1) = levK N R (byN nss) k → clsK N R nss = levK N R (byN nss) k) := fun k h1 h2 => lastK_of hbl (by rw [byN]; exact numK_idem _) h1.before h2); have HLl : Hid (∀ k, (levK N R (byN nss) k).length = N) := levK_len hbl
  have HK : Hid (∀ k, EndK N R (byN nss) k → k ≤ 1600) := fun k hk => by
    (have h1 := tog_drop (R := R) hbl (by rw [byN]; exact numK_idem _) k hk.before); have h2 : N * N ≤ 1600 := Nat.mul_le_mul hN hN; omega
  (have HLv : Hid (∀ W, Below w.heap.size w W → Calls Try.prog 72 #[v] W fun e w' => ∃ k ad cp vs, e = .returned (.slice ad (k + 1) cp) ∧ vs.length = k + 1 ∧ LvR W.heap.size w' ad cp (levs N R (byN nss) k) vs ∧ EndK N R (byN nss) k ∧ levK N R (byN nss) (k + 1) = levK N R (byN nss) k ∧ Below W.heap.size W w') := fun W hW => levels_any h0 hN R nss hns v W (hv.up hW)); obtain ⟨g, h, rfl, -⟩ := hv; obtain ⟨X, hX⟩ : ∃ X, X = w.alloc (.cells #[.slice (some ⟨g, 0, none⟩) N N, .slice (some ⟨h, 0, none⟩) N N] 84 (0, 0)) := ⟨_, rfl⟩; (have HB0 : Hid (Below w.heap.size w X) := by rw [hX]; exact below_more (Below.refl _ w) _); (obtain ⟨q0, q1, -⟩ := blk2 (show X.heap[w.heap.size]? = some (.cells #[.slice (some ⟨g, 0, none⟩) N N, .slice (some ⟨h, 0, none⟩) N N] 84 (0, 0)) by rw [hX]; exact blk_new _ _)); have HXe : Hid (w.alloc (.cells #[.slice (some ⟨g, 0, none⟩) N N, .slice (some ⟨h, 0, none⟩) N N] 84 (0, 0)) = X) := hX.symm; clear hX hbl hnl hns h0 hN
  go_enter Try.func40, Try.ntmps40
  go_upto_region 1 with fail
  rw [HXe.out]; go_wp2_with fail; refine (HLv.out X HB0.out).mono ?_; rintro _ w1 ⟨k, ad, cp, vs, rfl, hvl, hlv, hek, hke, hb1⟩; have hk := HK.out k hek; (have hkI : (k : Int) ≤ 1600 := by omega); have HCe := HLe.out k hek hke; (obtain ⟨u, hu⟩ : ∃ u, vs[k]? = some u := ⟨_, List.getElem?_eq_getElem (by omega)⟩); obtain ⟨au, cu, hue, hou⟩ := hlv.each k u _ hu (levs_get (Nat.le_refl _)); rw [HLl.out k] at hue; subst hue; have hrw := hlv.row; obtain ⟨hc1, hc2⟩ := rowM_caps hrw; (obtain ⟨b, rfl, hcb⟩ := rowM_cells hrw (by omega)); have c1 := hcb k _ hu; rw [Nat.zero_add] at c1; (have hkc : (k : Int) < (cp : Int) := by omega)
  have HOu : Hid (OwnN w.heap.size w1 au cu (clsK N R nss)) := by
    show OwnN _ _ _ _ _; rw [HCe]; exact rowM_low hou HB0.out.size
  have HB1 : Hid (Below w.heap.size w w1) := below_join HB0.out hb1; clear hk hvl hlv hek hke hb1 HCe hu hou hrw hc1 hc2 hcb q0 q1; go_wp2_with fail; go_ret; exact ⟨au, cu, rfl, HOu.out, HB1.out⟩
end Go.Proofs.Ytclinobfbdljhah
/- Walks: a model as its worlds see and are named (viewOf). -/
namespace Go.Proofs.Ytclinobfbdljhah
open Go.RowKit

/-- Rows of names being made: so many are there. -/
structure NmR (B : Nat) (w : World) (h N : Nat) (tr : List (List (List UInt8))) (i : Nat) (cur : Array Value) : Prop where
  blk : w.heap[h]? = some (.cells cur 80 (0, 0))
  size : cur.size = N
  each : ∀ (j : Nat) (r : List (List UInt8)), j < i → tr[j]? = some r → ∃ ad cp, cur[j]? = some (.slice ad (nmz r).length cp) ∧ KS B w ad cp (nmz r)
theorem NmR.move {B : Nat} {w w' : World} {h N : Nat} {tr : List (List (List UInt8))} {i : Nat} {cur : Array Value} (x : NmR B w h N tr i cur) (e : w'.heap[h]? = w.heap[h]?) (hk : ∀ (b : Nat) (cs : Array Value) (f : Nat × Nat), w.heap[b]? = some (.cells cs 9 f) → w'.heap[b]? = w.heap[b]?) : NmR B w' h N tr i cur :=
  ⟨e.trans x.blk, x.size, fun j r hj hr => by
    obtain ⟨ad, cp, h1, h2⟩ := x.each j r hj hr
    exact ⟨ad, cp, h1, KS.stay h2 hk⟩⟩
/-- Where a view is made. -/
structure ViS (w wc : World) (N : Nat) (M : Obj) (bv g h : Nat) : Prop where
  low : w.heap.size + 2 ≤ bv ∧ w.heap.size + 2 ≤ g ∧ w.heap.size + 2 ≤ h
  below : Below w.heap.size w wc
  mo : wc.heap[w.heap.size]? = some M
  out : wc.heap[w.heap.size + 1]? = some (.cells #[.slice none 0 0, .slice none 0 0] 84 (0, 0))
  vw : wc.heap[bv]? = some (.cells #[.slice (some ⟨g, 0, none⟩) N N, .slice (some ⟨h, 0, none⟩) N N] 84 (0, 0))
theorem ViS.up {w wc wd : World} {N : Nat} {M : Obj} {bv g h : Nat} (x : ViS w wc N M bv g h) (hb : Below wc.heap.size wc wd) : ViS w wd N M bv g h :=
  ⟨x.low, x.below.trans (hb.mono x.below.size), below_keep hb x.mo, below_keep hb x.out, below_keep hb x.vw⟩
/-- Only one block, that holds something else, has changed. -/
theorem ViS.set {w wc : World} {N : Nat} {M : Obj} {bv g h b i : Nat} {cs : Array Value} {T : TypeId} (v : Value) (x : ViS w wc N M bv g h) (hb : wc.heap[b]? = some (.cells cs T (0, 0))) (h1 : w.heap.size + 2 ≤ b) (h2 : T ≠ 84) : ViS w (wc.setCell ⟨b, i, none⟩ v) N M bv g h := by
  have n3 : bv ≠ b := fun e => by
    have := x.vw; rw [e, hb] at this; simp at this; exact h2 this.2
  (exact ⟨x.low, x.below.setCell (p := ⟨b, i, none⟩) (by simp; omega) _, (blk_otherS v (by omega)).trans x.mo, (blk_otherS v (by omega)).trans x.out, (blk_otherS v n3).trans x.vw⟩)
theorem al30 (W : World) (a b c : Obj) : (((W.alloc a).alloc b).alloc c).heap[W.heap.size]? = some a := alloc_keep (alloc_keep (blk_new _ _) _) _
theorem al31 (W : World) (a b c : Obj) : (((W.alloc a).alloc b).alloc c).heap[W.heap.size + 1]? = some b := alloc_keep (blk_secE _ _ _) _
theorem al32 (W : World) (a b c : Obj) : (((W.alloc a).alloc b).alloc c).heap[W.heap.size + 1 + 1]? = some c := by
  have := blk_new ((W.alloc a).alloc b) c
  rwa [World.size_alloc, World.size_alloc] at this
theorem al3b (W : World) (a b c : Obj) : Below W.heap.size W (((W.alloc a).alloc b).alloc c) := below_more (below_more (below_more (Below.refl _ W) _) _) _
theorem viS_mk {w W Z : World} {N : Nat} {M : Obj} {bv g h : Nat} (hb : Below w.heap.size w W) (hx : W.heap[w.heap.size]? = some M) (ho : W.heap[w.heap.size + 1]? = some (.cells #[.slice none 0 0, .slice none 0 0] 84 (0, 0))) (hz : W.heap.size = w.heap.size + 2) (hbz : Below W.heap.size W Z) (h1 : W.heap.size ≤ bv) (h2 : W.heap.size ≤ g) (h3 : W.heap.size ≤ h) (hv : Z.heap[bv]? = some (.cells #[.slice (some ⟨g, 0, none⟩) N N, .slice (some ⟨h, 0, none⟩) N N] 84 (0, 0))) : ViS w Z N M bv g h :=
  ⟨by omega, hb.trans (hbz.mono hb.size), below_keep hbz hx, below_keep hbz ho, hv⟩
theorem slT {B : Nat} {w : World} {ad : Option Addr} {cp : Nat} {l : List (List UInt8)} (h : KS B w ad cp l) : SL w (.slice ad l.length cp) l := by
  obtain ⟨ad', cp', e, h1, h2, h3⟩ := KS.list h; (refine ⟨ad', cp', e, h1, h2, fun hne => ?_⟩); obtain ⟨g, e2, hc⟩ := h3 hne; (exact ⟨g, 0, e2, fun j t hj => by rw [Nat.zero_add]; exact hc j t hj⟩)
theorem ks_lowS {B B' : Nat} {w : World} {ad : Option Addr} {cap : Nat} {l : List (List UInt8)} (h : KS B w ad cap l) (hB : B' ≤ B) : KS B' w ad cap l := rowM_low h hB
theorem valuesT_any (a : Option Addr) (len cap : Nat) (w : World) : Calls Try.prog 71 #[.slice a len cap] w fun e w' => ∃ B, e = .returned (.func (.func 95) #[] #[.pointer (some ⟨B, 0, none⟩)]) ∧ w'.cell? ⟨B, 0, none⟩ = some (.slice a len cap) ∧ Below w.heap.size w w' := by
  refine (valuesT_in a len cap w).mono ?_; rintro _ w1 ⟨rfl, rfl⟩; exact ⟨w.heap.size, rfl, blk_cell (blk_new _ _) 0, below_more (Below.refl _ w) _⟩
theorem rowV15 (l : List Value) (h0 : l.length = 15) : ∃ x0 x1 x2 x3 x4 x5 x6 x7 x8 x9 x10 x11 x12 x13 x14, l = [x0, x1, x2, x3, x4, x5, x6, x7, x8, x9, x10, x11, x12, x13, x14] := by
  obtain ⟨x0, l1, e0, h1⟩ := cons_lenM h0; obtain ⟨x1, l2, e1, h2⟩ := cons_lenM h1; obtain ⟨x2, l3, e2, h3⟩ := cons_lenM h2; obtain ⟨x3, l4, e3, h4⟩ := cons_lenM h3; obtain ⟨x4, l5, e4, h5⟩ := cons_lenM h4; obtain ⟨x5, l6, e5, h6⟩ := cons_lenM h5; obtain ⟨x6, l7, e6, h7⟩ := cons_lenM h6; obtain ⟨x7, l8, e7, h8⟩ := cons_lenM h7; obtain ⟨x8, l9, e8, h9⟩ := cons_lenM h8; obtain ⟨x9, l10, e9, h10⟩ := cons_lenM h9; obtain ⟨x10, l11, e10, h11⟩ := cons_lenM h10; obtain ⟨x11, l12, e11, h12⟩ := cons_lenM h11; obtain ⟨x12, l13, e12, h13⟩ := cons_lenM h12; obtain ⟨x13, l14, e13, h14⟩ := cons_lenM h13; obtain ⟨x14, l15, e14, h15⟩ := cons_lenM h14; have e15 : l15 = [] := List.length_eq_zero_iff.1 h15; subst e15 e14 e13 e12 e11 e10 e9 e8 e7 e6 e5 e4 e3 e2 e1 e0; exact ⟨x0, x1, x2, x3, x4, x5, x6, x7, x8, x9, x10, x11, x12, x13, x14, rfl⟩
set_option maxRecDepth 10000 in
set_option maxHeartbeats 16000000 in
theorem viewOf_any (N : Nat) (h0 : 0 < N) (hN : N ≤ 40) (rel : List (Int × Int)) (hrl : rel.length ≤ 2000) (hin : InR N rel) (tr : List (List (List UInt8))) (htl : tr.length = N) (htr : ∀ r ∈ tr, r.length ≤ 30) (ra ta : Option Addr) (rc tc : Nat) (w : World) (hp : PL w (.slice ra rel.length rc) rel) (ht : SLs w (.slice ta tr.length tc) tr) :
    Calls Try.prog 39 #[.agg #[.int .i64 (N : Nat), .slice ra rel.length rc, .slice ta tr.length tc]] w fun e w' => ∃ x, e = .returned x ∧ VwR w' N (relB rel) (tr.map nmz) x ∧ Below w.heap.size w w' := by
  have HIn : Hid (InR N rel) := hin; have HN : Hid (0 < N ∧ N ≤ 40) := ⟨h0, hN⟩; have HTl : Hid (tr.length = N) := htl; have HTr : Hid (∀ r ∈ tr, r.length ≤ 30) := htr; (have hNi : (N : Int) ≤ 40 := by omega); (have hrI : (rel.length : Int) ≤ 2000 := by omega); (have hmk1 := fun w => run_make_row' (P := Try.prog) 82 71 (.int .u64 0) 8 Try.underlying82 (by kernel_rfl) rfl .i64 .i64 N (by omega) (by omega) w); (have hmk2 := fun w => run_make_row' (P := Try.prog) 28 80 (.slice none 0 0) 24 Try.underlying28 (by kernel_rfl) rfl .i64 .i64 N (by omega) (by omega) w); obtain ⟨W, hW⟩ : ∃ W, W = (w.alloc (.cells #[.int .i64 (N : Nat), .slice ra rel.length rc, .slice ta tr.length tc] 30 (0, 0))).alloc (.cells #[.slice none 0 0, .slice none 0 0] 84 (0, 0)) := ⟨_, rfl⟩; (have HB0 : Hid (Below w.heap.size w W) := by rw [hW]; exact below_more (below_more (Below.refl _ w) _) _); (have HX : Hid (W.heap[w.heap.size]? = some (.cells #[.int .i64 (N : Nat), .slice ra rel.length rc, .slice ta tr.length tc] 30 (0, 0))) := by rw [hW]; exact alloc_keep (blk_new _ _) _); (have HO0 : Hid (W.heap[w.heap.size + 1]? = some (.cells #[.slice none 0 0, .slice none 0 0] 84 (0, 0))) := by rw [hW]; exact blk_secE _ _ _); (have HWz : Hid (W.heap.size = w.heap.size + 2) := by rw [hW]; show _ = _; simp); have HPl : Hid (PL w (.slice ra rel.length rc) rel) := hp; have HTs : Hid (SLs w (.slice ta tr.length tc) tr) := ht; obtain ⟨ad0, cap0, e0, hc1, hc2, hc3⟩ := hp; simp only [Value.slice.injEq, true_and] at e0; obtain ⟨rfl, rfl⟩ := e0; have HRl : Hid (rel ≠ [] → ∃ b off, ra = some ⟨b, off, none⟩ ∧ ∀ (j : Nat) (x y : Int), rel[j]? = some (x, y) → w.cell? ⟨b, off + j * 2, none⟩ = some (.int .i64 x) ∧ w.cell? ⟨b, off + j * 2 + 1, none⟩ = some (.int .i64 y)) := hc3; (have hcI : (rel.length : Int) ≤ (rc : Int) := by omega); obtain ⟨ad9, cap9, e9, ht1, ht2, ht3⟩ := ht; simp only [Value.slice.injEq, true_and] at e9; obtain ⟨rfl, rfl⟩ := e9
  have HTc : Hid (∀ (j : Nat) (r : List (List UInt8)), tr[j]? = some r → ∃ b off u, ta = some ⟨b, off, none⟩ ∧ w.cell? ⟨b, off + j, none⟩ = some u ∧ SL w u r) := fun j r hj => by
    (obtain ⟨b, off, e, hc⟩ := ht3 (fun e => by rw [e] at hj; cases hj)); obtain ⟨u, h1, h2⟩ := hc j r hj; exact ⟨b, off, u, e, h1, h2⟩
  (have htI : (tr.length : Int) ≤ (tc : Int) := by omega); obtain ⟨q0, q1, q2, -⟩ := blk3 HX.out; have zx := lt_of_block HX.out; clear hc3 hin hrl hc1 hc2 hN h0 ht3 ht1 ht2 htl htr; obtain ⟨MO, hMO⟩ : ∃ MO : Obj, MO = (.cells #[.int .i64 (N : Nat), .slice ra rel.length rc, .slice ta tr.length tc] 30 (0, 0)) := ⟨_, rfl⟩; have HMo : Hid (some MO = some (.cells #[.int .i64 (N : Nat), .slice ra rel.length rc, .slice ta tr.length tc] 30 (0, 0))) := congrArg some hMO; clear hMO
  go_enter Try.func39, Try.ntmps39
  go_upto_region 1 with fail
  rw [← hW]; clear hW
  go_cut [3] from 8 to 14 (fun v wc => ∃ bv g h, v = .pointer (some ⟨bv, 0, none⟩) ∧ Hid (ViS w wc N MO bv g h) ∧ Hid (wc.heap[g]? = some (.cells (madeCells #[.int .u64 0] N) 71 (0, 0))) ∧ Hid (wc.heap[h]? = some (.cells (madeCells #[.slice none 0 0] N) 80 (0, 0))))
  case first =>
    go_region
    all_goals (go_wp2_with fail)
    all_goals go_meet
    all_goals first
      | exact ⟨W.heap.size, W.heap.size + 1, W.heap.size + 1 + 1, rfl, viS_mk HB0.out (HX.out.trans HMo.out.symm) HO0.out HWz.out (al3b _ _ _ _).drew (by omega) (by omega) (by omega) (al30 _ _ _ _), al31 _ _ _ _, al32 _ _ _ _⟩
      | exact ⟨W.heap.size, W.heap.size + 1 + 1, W.heap.size + 1, rfl, viS_mk HB0.out (HX.out.trans HMo.out.symm) HO0.out HWz.out (al3b _ _ _ _).drew (by omega) (by omega) (by omega) (al30 _ _ _ _), al32 _ _ _ _, al31 _ _ _ _⟩
      | exact ⟨W.heap.size + 1, W.heap.size, W.heap.size + 1 + 1, rfl, viS_mk HB0.out (HX.out.trans HMo.out.symm) HO0.out HWz.out (al3b _ _ _ _).drew (by omega) (by omega) (by omega) (al31 _ _ _ _), al30 _ _ _ _, al32 _ _ _ _⟩
      | exact ⟨W.heap.size + 1, W.heap.size + 1 + 1, W.heap.size, rfl, viS_mk HB0.out (HX.out.trans HMo.out.symm) HO0.out HWz.out (al3b _ _ _ _).drew (by omega) (by omega) (by omega) (al31 _ _ _ _), al32 _ _ _ _, al30 _ _ _ _⟩
      | exact ⟨W.heap.size + 1 + 1, W.heap.size, W.heap.size + 1, rfl, viS_mk HB0.out (HX.out.trans HMo.out.symm) HO0.out HWz.out (al3b _ _ _ _).drew (by omega) (by omega) (by omega) (al32 _ _ _ _), al30 _ _ _ _, al31 _ _ _ _⟩
      | exact ⟨W.heap.size + 1 + 1, W.heap.size + 1, W.heap.size, rfl, viS_mk HB0.out (HX.out.trans HMo.out.symm) HO0.out HWz.out (al3b _ _ _ _).drew (by omega) (by omega) (by omega) (al32 _ _ _ _), al31 _ _ _ _, al30 _ _ _ _⟩

  case rest =>
    obtain ⟨bv, g, h, rfl, HVi0, HFr0, HNr0⟩ := hcut; clear q0 q1 q2 zx hmk1 hmk2 HB0 HX HO0 HWz W; obtain ⟨q0, q1, q2, -⟩ := blk3 (HVi0.out.mo.trans HMo.out); go_wp2_with fail
    go_loopg [18] rel.length (fun gg cc wr => ∃ i, i ≤ rel.length ∧ gg = rel.length - i ∧ cc = .int .i64 (i : Nat) ∧ Hid (wr.heap[g]? = some (.cells (frC N (rel.take i)) 71 (0, 0))) ∧ Hid (wr.heap[h]? = some (.cells (madeCells #[.slice none 0 0] N) 80 (0, 0))) ∧ Hid (ViS w wr N MO bv g h))
    case atStart => exact ⟨0, by omega, by omega, rfl, by rw [List.take_zero, ← frC_zero]; exact HFr0, HNr0, HVi0⟩
    case round =>
      obtain ⟨i, hi, hg, rfl, HFr, HNr, HVi⟩ := hrel; have HGk : Hid (gk = rel.length - i) := hg; clear hg; obtain ⟨k0, k1, k2, -⟩ := blk3 (HVi.out.mo.trans HMo.out); by_cases hlt : i < rel.length
      · obtain ⟨⟨x', y'⟩, hr⟩ : ∃ r, rel[i]? = some r := ⟨_, List.getElem?_eq_getElem hlt⟩
        obtain ⟨h1, h2, h3, h4⟩ := HIn.out _ (List.mem_of_getElem? hr); (obtain ⟨b, off, rfl, hc⟩ := HRl.out (fun e => by rw [e] at hlt; simp at hlt)); (obtain ⟨x, hx⟩ : ∃ x : Nat, x' = (x : Int) := ⟨x'.toNat, by simp only at h1; omega⟩); (obtain ⟨y, hy⟩ : ∃ y : Nat, y' = (y : Int) := ⟨y'.toNat, by simp only at h3; omega⟩); subst hx hy; simp only at h2 h4; (have HXl : Hid (x < N) := by show _ < _; omega); (have HYl : Hid (y < N) := by show _ < _; omega); have hxI : (x : Int) < (N : Int) := h2; have HBw : Hid (Below w.heap.size w wr) := HVi.out.below; obtain ⟨c0, c1⟩ := hc i _ _ hr; have g0 := (HBw.out.cell (lt_of_cell c0)).trans c0; have g1 := (HBw.out.cell (lt_of_cell c1)).trans c1; (have hltI : (i : Int) < (rel.length : Int) := by omega); (have hltc : (i : Int) < (rc : Int) := by omega); have HI : Hid (i < rel.length) := hlt; have HRi : Hid (rel[i]? = some ((x : Int), (y : Int))) := hr; obtain ⟨s, hs⟩ : ∃ s, s = bm N (relB (rel.take i) x) := ⟨_, rfl⟩; (obtain ⟨s1, hs1⟩ : ∃ s1, s1 = bm N (fun v => relB (rel.take i) x v || v == y) := ⟨_, rfl⟩); have HSa : Hid (s = bm N (relB (rel.take i) x)) := hs; (have HSb : Hid (s1 = bm N (fun v => relB (rel.take i) x v || v == y)) := hs1)
        have HWi : Hid (∀ (b : Nat) (W : World), W.cell? ⟨b, 0, none⟩ = some (.int .i64 (y : Nat)) → Calls Try.prog 68 #[.int .u64 (s : Nat), .slice (some ⟨b, 0, none⟩) 1 1] W fun e w' => e = .returned (.int .u64 (s1 : Nat)) ∧ w' = W) := fun b W hcW => by
          rw [HSa.out, HSb.out]; exact set_with1 HN.out.2 _ y b HYl.out W hcW
        obtain ⟨XW, hXW⟩ : ∃ XW, XW = wr.alloc (.cells #[.int .i64 (x : Nat), .int .i64 (y : Nat)] 42 (0, 0)) := ⟨_, rfl⟩; (have HPr : Hid (XW.heap[wr.heap.size]? = some (.cells #[.int .i64 (x : Nat), .int .i64 (y : Nat)] 42 (0, 0))) := by rw [hXW]; exact blk_new _ _); (have HFx : Hid (XW.heap[g]? = some (.cells (frC N (rel.take i)) 71 (0, 0))) := by rw [hXW]; exact alloc_keep HFr.out _); (have HNX : Hid (XW.heap[h]? = some (.cells (madeCells #[.slice none 0 0] N) 80 (0, 0))) := by rw [hXW]; exact alloc_keep HNr.out _); (have HViX : Hid (ViS w XW N MO bv g h) := by rw [hXW]; exact HVi.out.up (below_more (Below.refl _ wr) _)); have HVx : Hid (XW.heap[bv]? = some (.cells #[.slice (some ⟨g, 0, none⟩) N N, .slice (some ⟨h, 0, none⟩) N N] 84 (0, 0))) := HViX.out.vw; clear hc hr hlt hi c0 c1 h1 h2 h3 h4 hs hs1; go_wp2_with fail; rw [← hXW]; clear k0 k1 k2 g0 g1 hXW q0 q1 q2; (refine wp_region_last (by kernel_rfl) [fun v _ => v = (.pointer (some ⟨bv, 0, none⟩)), fun v _ => v = (.slice (some ⟨g, 0, none⟩) N N), fun v _ => v = (.pointer (some ⟨wr.heap.size, 0, none⟩)), fun v _ => v = (.int .i64 (x : Nat)), fun v _ => v = (.pointer (some ⟨bv, 0, none⟩)), fun v _ => v = (.slice (some ⟨g, 0, none⟩) N N), fun v _ => v = (.pointer (some ⟨wr.heap.size, 0, none⟩)), fun v _ => v = (.int .i64 (x : Nat)), fun v _ => v = (.pointer (some ⟨g, x, none⟩)), fun v _ => v = (.int .u64 (s : Nat)), fun v _ => v = (.pointer (some ⟨wr.heap.size, 1, none⟩)), fun v _ => v = (.int .i64 (y : Nat)), fun v w => ∃ b, v = .slice (some ⟨b, 0, none⟩) 1 1 ∧ w.cell? ⟨b, 0, none⟩ = some (.int .i64 (y : Nat)), fun v _ => v = (.int .u64 (s1 : Nat)), fun v _ => v = (.pointer (some ⟨g, x, none⟩))] ?_ (by kernel_rfl) (by kernel_rfl) 56 rfl (by kernel_rfl) 15 _ rfl rfl (by kernel_rfl) ?_ ?_)
        · intro p hp
          simp only [List.mem_cons, List.not_mem_nil, or_false] at hp
          rcases hp with rfl | rfl | rfl | rfl | rfl | rfl | rfl | rfl | rfl | rfl | rfl | rfl | rfl | rfl | rfl
          · exact fun _ _ _ h _ => h
          · exact fun _ _ _ h _ => h
          · exact fun _ _ _ h _ => h
          · exact fun _ _ _ h _ => h
          · exact fun _ _ _ h _ => h
          · exact fun _ _ _ h _ => h
          · exact fun _ _ _ h _ => h
          · exact fun _ _ _ h _ => h
          · exact fun _ _ _ h _ => h
          · exact fun _ _ _ h _ => h
          · exact fun _ _ _ h _ => h
          · exact fun _ _ _ h _ => h
          · rintro v w1 w2 ⟨b, e, h⟩ hb
            exact ⟨b, e, (hb.cell (lt_of_cell h)).trans h⟩
          · exact fun _ _ _ h _ => h
          · exact fun _ _ _ h _ => h
        · refine ⟨?_, ?_, ?_, ?_, ?_, ?_, ?_, ?_, ?_, ?_, ?_, ?_, ?_, ?_, ?_, trivial⟩
          · intro a wx hB hold hdep K hK
            have t3 : a.tmps[3]? = some (.pointer (some ⟨bv, 0, none⟩)) := hold.2.2 3 rfl; clear hold hdep; go_simp; exact hK.out _ _ rfl (Below.refl _ _)
          · intro a wx hB hold hdep K hK
            obtain ⟨v22, t22, p22⟩ := hdep 0 rfl _ 22 rfl rfl; have e22 : v22 = (.pointer (some ⟨bv, 0, none⟩)) := p22; subst e22; obtain ⟨u0, u1, -⟩ := blk2 (below_keep hB HVx.out); clear hold hdep; go_simp; exact hK.out _ _ rfl (Below.refl _ _)
          · intro a wx hB hold hdep K hK
            have t5 : a.tmps[5]? = some (.pointer (some ⟨wr.heap.size, 0, none⟩)) := hold.2.2 5 rfl; clear hold hdep; go_simp; exact hK.out _ _ rfl (Below.refl _ _)
          · intro a wx hB hold hdep K hK
            obtain ⟨v24, t24, p24⟩ := hdep 2 rfl _ 24 rfl rfl; have e24 : v24 = (.pointer (some ⟨wr.heap.size, 0, none⟩)) := p24; subst e24; obtain ⟨k0, k1, -⟩ := blk2 (below_keep hB HPr.out); clear hold hdep; go_simp; exact hK.out _ _ rfl (Below.refl _ _)
          · intro a wx hB hold hdep K hK
            have t3 : a.tmps[3]? = some (.pointer (some ⟨bv, 0, none⟩)) := hold.2.2 3 rfl; clear hold hdep; go_simp; exact hK.out _ _ rfl (Below.refl _ _)
          · intro a wx hB hold hdep K hK
            obtain ⟨v26, t26, p26⟩ := hdep 4 rfl _ 26 rfl rfl; have e26 : v26 = (.pointer (some ⟨bv, 0, none⟩)) := p26; subst e26; obtain ⟨u0, u1, -⟩ := blk2 (below_keep hB HVx.out); clear hold hdep; go_simp; exact hK.out _ _ rfl (Below.refl _ _)
          · intro a wx hB hold hdep K hK
            have t5 : a.tmps[5]? = some (.pointer (some ⟨wr.heap.size, 0, none⟩)) := hold.2.2 5 rfl; clear hold hdep; go_simp; exact hK.out _ _ rfl (Below.refl _ _)
          · intro a wx hB hold hdep K hK
            obtain ⟨v28, t28, p28⟩ := hdep 6 rfl _ 28 rfl rfl; have e28 : v28 = (.pointer (some ⟨wr.heap.size, 0, none⟩)) := p28; subst e28; obtain ⟨k0, k1, -⟩ := blk2 (below_keep hB HPr.out); clear hold hdep; go_simp; exact hK.out _ _ rfl (Below.refl _ _)
          · intro a wx hB hold hdep K hK
            obtain ⟨v27, t27, p27⟩ := hdep 5 rfl _ 27 rfl rfl; have e27 : v27 = (.slice (some ⟨g, 0, none⟩) N N) := p27; subst e27; obtain ⟨v29, t29, p29⟩ := hdep 7 rfl _ 29 rfl rfl; have e29 : v29 = (.int .i64 (x : Nat)) := p29; subst e29; clear hold hdep; go_simp; exact hK.out _ _ rfl (Below.refl _ _)
          · intro a wx hB hold hdep K hK
            obtain ⟨v30, t30, p30⟩ := hdep 8 rfl _ 30 rfl rfl; have e30 : v30 = (.pointer (some ⟨g, x, none⟩)) := p30; subst e30; have d0 := blk_cell (below_keep hB HFx.out) x; rw [frC_get _ HXl.out, ← HSa.out] at d0; clear hold hdep; go_simp; exact hK.out _ _ rfl (Below.refl _ _)
          · intro a wx hB hold hdep K hK
            have t5 : a.tmps[5]? = some (.pointer (some ⟨wr.heap.size, 0, none⟩)) := hold.2.2 5 rfl; clear hold hdep; go_simp; exact hK.out _ _ rfl (Below.refl _ _)
          · intro a wx hB hold hdep K hK
            obtain ⟨v32, t32, p32⟩ := hdep 10 rfl _ 32 rfl rfl; have e32 : v32 = (.pointer (some ⟨wr.heap.size, 1, none⟩)) := p32; subst e32; obtain ⟨k0, k1, -⟩ := blk2 (below_keep hB HPr.out); clear hold hdep; go_simp; exact hK.out _ _ rfl (Below.refl _ _)
          · intro a wx hB hold hdep K hK
            obtain ⟨v33, t33, p33⟩ := hdep 11 rfl _ 33 rfl rfl; have e33 : v33 = (.int .i64 (y : Nat)) := p33; subst e33; clear hold hdep; go_simp; (exact hK.out _ _ ⟨_, rfl, by simp⟩ (below_more (Below.refl _ _) _))
          · intro a wx hB hold hdep K hK
            obtain ⟨v31, t31, p31⟩ := hdep 9 rfl _ 31 rfl rfl; have e31 : v31 = (.int .u64 (s : Nat)) := p31; subst e31; obtain ⟨v34, t34, p34⟩ := hdep 12 rfl _ 34 rfl rfl; (have P34 : Hid ((fun v w => ∃ b, v = .slice (some ⟨b, 0, none⟩) 1 1 ∧ w.cell? ⟨b, 0, none⟩ = some (.int .i64 (y : Nat))) v34 wx) := p34); clear p34; obtain ⟨b, rfl, hb⟩ := P34.out; have HW := HWi.out b wx hb; clear hb P34; clear hold hdep; go_simp; refine HW.mono ?_; rintro _ w9 ⟨rfl, e9⟩
            replace e9 := e9.symm
            subst e9; go_simp; exact hK.out _ _ rfl (Below.refl _ _)
          · intro a wx hB hold hdep K hK
            obtain ⟨v23, t23, p23⟩ := hdep 1 rfl _ 23 rfl rfl; have e23 : v23 = (.slice (some ⟨g, 0, none⟩) N N) := p23; subst e23; obtain ⟨v25, t25, p25⟩ := hdep 3 rfl _ 25 rfl rfl; have e25 : v25 = (.int .i64 (x : Nat)) := p25; subst e25; clear hold hdep; go_simp; exact hK.out _ _ rfl (Below.refl _ _)
        · intro a wx hB hold hgot K hK
          (obtain ⟨vA, tvA, pvA⟩ := hgot 13 _ 35 (by omega) rfl rfl); have evA : vA = (.int .u64 (s1 : Nat)) := pvA; subst evA; (obtain ⟨vB, tvB, pvB⟩ := hgot 14 _ 36 (by omega) rfl rfl); have evB : vB = (.pointer (some ⟨g, x, none⟩)) := pvB; subst evB; have HBx : Hid (Below XW.heap.size XW wx) := hB; have HIx : Hid (wx.heap[g]? = some (.cells (frC N (rel.take i)) 71 (0, 0))) := below_keep hB HFx.out; have HSx : Hid (ViS w wx N MO bv g h) := HViX.out.up hB; have HNx : Hid (wx.heap[h]? = some (.cells (madeCells #[.slice none 0 0] N) 80 (0, 0))) := below_keep hB HNX.out; have c0 := blk_cell HIx.out x; rw [frC_get _ HXl.out] at c0; have c1 := blk_fz HIx.out x; obtain ⟨tm, df⟩ := a; (obtain ⟨ys, hys, htm, rfl⟩ := frame_mid2 22 15 (by kernel_rfl) (Nat.le_of_ble_eq_true rfl) hold); obtain ⟨x22, x23, x24, x25, x26, x27, x28, x29, x30, x31, x32, x33, x34, x35, x36, rfl⟩ := rowV15 ys hys; simp only [List.take_succ_cons, List.take_zero, List.drop_succ_cons, List.drop_zero, List.cons_append, List.nil_append] at htm; subst htm; obtain rfl : x35 = _ := someInjM tvA; obtain rfl : x36 = _ := someInjM tvB; clear hys hold hgot tvA pvA tvB pvB hB; go_simp; refine hK.out _ _ ?_; clear hK c0 c1; obtain ⟨F, hF⟩ : ∃ F, F = wx.setCell ⟨g, x, none⟩ (.int .u64 (s1 : Nat)) := ⟨_, rfl⟩
          have HF1 : Hid (F.heap[g]? = some (.cells (frC N (rel.take (i + 1))) 71 (0, 0))) := by
            rw [hF, set_cellE HIx.out, HSb.out, frC_set, List.take_add_one, HRi.out]; rfl
          have HF2 : Hid (ViS w F N MO bv g h) := by
            rw [hF]; (exact HSx.out.set _ HIx.out HSx.out.low.2.1 (by decide))
          have HF3 : Hid (F.heap[h]? = some (.cells (madeCells #[.slice none 0 0] N) 80 (0, 0))) := by
            rw [hF]; (refine (blk_otherS _ fun e => ?_).trans HNx.out); have := HNx.out; rw [e, HIx.out] at this; simp at this
          rw [← hF]; clear hF; go_wp2_with fail
          go_roundg (rel.length - (i + 1))
          case measure => have := HGk.out; have := HI.out; omega
          case rel => exact ⟨i + 1, HI.out, rfl, by go_num, HF1, HF3, HF2⟩
      · have hii : i = rel.length := by omega
        subst hii; (have hge : ¬ (rel.length : Int) < (rel.length : Int) := by omega); rw [List.take_length] at HFr; clear hlt hi q0 q1 q2; go_wp2_with fail; clear k0 k1 k2; obtain ⟨V, hV⟩ : ∃ V, V = wr := ⟨_, rfl⟩; subst hV
        go_loopg [41, 6, 7] tr.length (fun gg cc y6 y7 wr => ∃ i cur, i ≤ tr.length ∧ gg = tr.length - i ∧ cc = .int .i64 (i : Nat) ∧ Hid (wr.heap[g]? = some (.cells (frC N rel) 71 (0, 0))) ∧ Hid (NmR w.heap.size wr h N tr i cur) ∧ Hid (ViS w wr N MO bv g h))
        case atStart => exact ⟨0, madeCells #[.slice none 0 0] N, by omega, by omega, rfl, HFr, ⟨HNr.out, by simp [madeCells], fun j r hj => by omega⟩, HVi⟩
        case round =>
          obtain ⟨i, cur, hi, hg, rfl, HFr2, HNm, HVi2⟩ := hrel; have HGk : Hid (gk = tr.length - i) := hg; clear hg; obtain ⟨k0, k1, k2, -⟩ := blk3 (HVi2.out.mo.trans HMo.out); obtain ⟨p0, p1, p2⟩ := blk2 HVi2.out.vw; by_cases hlt : i < tr.length
          · obtain ⟨r, hr⟩ : ∃ r, tr[i]? = some r := ⟨_, List.getElem?_eq_getElem hlt⟩
            obtain ⟨b, off, u, rfl, hcu, hsu⟩ := HTc.out i r hr; have hr30 := HTr.out r (List.mem_of_getElem? hr); have c0 := (HVi2.out.below.cell (lt_of_cell hcu)).trans hcu
            have hsl : SL wr u r := by
              obtain ⟨ad', cap', e', r1, r2, r3⟩ := hsu; (refine ⟨ad', cap', e', r1, r2, fun hne => ?_⟩); obtain ⟨b9, off9, e9, hc9⟩ := r3 hne; (exact ⟨b9, off9, e9, fun j t hj => (HVi2.out.below.cell (lt_of_cell (hc9 j t hj))).trans (hc9 j t hj)⟩)
            obtain ⟨adu, cpu, hue, hr1, hr2, hr3⟩ := hsl
            have hlow : ∀ a, adu = some a → r ≠ [] → a.block < wr.heap.size := fun a ha hne => by
              obtain ⟨b9, off9, e9, hc9⟩ := hr3 hne; rw [ha] at e9
              cases e9
              cases r with
              | nil => exact absurd rfl hne
              | cons t r => exact lt_of_cell (hc9 0 t rfl)
            subst hue; have HSl : Hid (SL wr (.slice adu r.length cpu) r) := ⟨adu, cpu, rfl, hr1, hr2, hr3⟩; have HLw : Hid (∀ a, adu = some a → r ≠ [] → a.block < wr.heap.size) := hlow; (have hltI : (i : Int) < (tr.length : Int) := by omega); (have hltN : (i : Int) < (N : Int) := by have := HTl.out; omega); (have hltc : (i : Int) < (tc : Int) := by omega); have HI : Hid (i < tr.length) := hlt; have HRi : Hid (tr[i]? = some r) := hr; have H30 : Hid (r.length ≤ 30) := hr30; have zb := lt_of_block HVi2.out.vw; obtain ⟨sr, hsr⟩ : ∃ sr, sr = srt r := ⟨_, rfl⟩; obtain ⟨zr, hzr⟩ : ∃ zr, zr = nmz r := ⟨_, rfl⟩
            have HSo : Hid (∀ B W, W.cell? ⟨B, 0, none⟩ = some (.slice adu r.length cpu) → Below wr.heap.size wr W → Calls Try.prog 70 #[.func (.func 95) #[] #[.pointer (some ⟨B, 0, none⟩)]] W fun e w' => ∃ ad' cap', e = .returned (.slice ad' sr.length cap') ∧ KS wr.heap.size w' ad' cap' sr ∧ Below wr.heap.size wr w') := fun B W hc hb => by
              rw [hsr]; (refine (sortedT_any B adu cpu r (by omega) W hc (SL.up HSl.out hb) (fun a ha hne => Nat.lt_of_lt_of_le (HLw.out a ha hne) hb.size)).mono ?_); rintro e w2 ⟨ad2, cp2, h1, h2, h3⟩; exact ⟨ad2, cp2, h1, ks_lowS h2 hb.size, below_join hb h3⟩
            have HCo : Hid (∀ ad cp W, KS wr.heap.size W ad cp sr → Below wr.heap.size wr W → Calls Try.prog 69 #[.slice ad sr.length cp] W fun e w' => ∃ ad' cap', e = .returned (.slice ad' zr.length cap') ∧ KS wr.heap.size w' ad' cap' zr ∧ Below wr.heap.size wr w') := fun ad cp W hk hb => by
              have hsl : (srt r).length = r.length := List.length_mergeSort ..; rw [hzr, nmz]; rw [hsr] at hk ⊢; (refine (uniqT_any wr.heap.size ad cp (srt r) (by omega) W hk).mono ?_); rintro e w2 ⟨ad2, cp2, h1, h2, h3⟩; exact ⟨ad2, cp2, h1, h2, hb.trans (h3 hb.size)⟩
            have HZr : Hid (zr = nmz r) := hzr; (obtain ⟨ci, hci⟩ : ∃ c, cur[i]? = some c := ⟨_, Array.getElem?_eq_getElem (by have := HNm.out.size; have := HTl.out; omega)⟩); have HCi : Hid (cur[i]? = some ci) := hci; clear hci
            have nbh : bv ≠ h := fun e => by
              have h1 := HVi2.out.vw; rw [e, HNm.out.blk] at h1; simp at h1
            (have nhb : h ≠ bv := fun e => nbh e.symm); clear hsr hzr; have p1z : Hid (wr.cell? ⟨bv, 1, none⟩ = some (.slice (some ⟨h, 0, none⟩) N N)) := p1; clear hlt hi hr hcu hsu hr30 hr1 hr2 hr3 hlow; go_wp2_with fail; clear c0 k0 k1 k2
            go_region_held3 (fun w' => w'.cell? ⟨bv, 1, none⟩ = some (.slice (some ⟨h, 0, none⟩) N N)) (go_keep)
              (first
               | (go_at_call 71
                  refine (valuesT_any _ _ _ _).mono ?_; rintro e w1 ⟨B1, rfl, hc1, hb1⟩; have HB1 : Hid (Below wr.heap.size wr w1) := below_join (Below.refl _ wr).drew hb1; have p1a := (HB1.out.cell (p := ⟨bv, 1, none⟩) zb).trans p1z.out; have HC1 : Hid (w1.cell? ⟨B1, 0, none⟩ = some (.slice adu r.length cpu)) := hc1
                  clear hb1 hc1)
               | (go_at_call 70
                  refine (HSo.out B1 w1 HC1.out HB1.out).mono ?_; rintro e w2 ⟨ad2, cp2, rfl, hk2, hb2⟩; have HB2 : Hid (Below wr.heap.size wr w2) := hb2; have HK2 : Hid (KS wr.heap.size w2 ad2 cp2 sr) := hk2; have p1b := (HB2.out.cell (p := ⟨bv, 1, none⟩) zb).trans p1z.out
                  clear hb2 hk2)
               | (go_at_call 69
                  refine (HCo.out ad2 cp2 w2 HK2.out HB2.out).mono ?_; rintro e w3 ⟨ad3, cp3, rfl, hk3, hb3⟩; have HB3 : Hid (Below wr.heap.size wr w3) := hb3; have HK3 : Hid (KS wr.heap.size w3 ad3 cp3 zr) := hk3; have m3 := (blk_cell (below_keep HB3.out HNm.out.blk) i).trans HCi.out; have f3 := blk_fz (below_keep HB3.out HNm.out.blk) i; have p1c := (HB3.out.cell (p := ⟨bv, 1, none⟩) zb).trans p1z.out
                  clear hb3 hk3)
               | fail)
            obtain ⟨F, hF⟩ : ∃ F, F = w3.setCell ⟨h, i, none⟩ (.slice ad3 zr.length cp3) := ⟨_, rfl⟩; rw [← hF]; have hh3 := below_keep HB3.out HNm.out.blk
            have HFg : Hid (F.heap[g]? = some (.cells (frC N rel) 71 (0, 0))) := by
              rw [hF]; (refine (blk_otherS _ fun e => ?_).trans (below_keep HB3.out HFr2.out)); have h1 := HFr2.out; rw [e, HNm.out.blk] at h1; simp at h1
            have HFv : Hid (ViS w F N MO bv g h) := by
              rw [hF]; (exact (HVi2.out.up HB3.out).set _ hh3 HVi2.out.low.2.2 (by decide))
            (have hoth : ∀ b, b ≠ h → F.heap[b]? = w3.heap[b]? := fun b hb => by rw [hF, blk_otherS _ hb])
            have hstr : ∀ (b : Nat) (cs : Array Value) (f : Nat × Nat), w3.heap[b]? = some (.cells cs 9 f) → F.heap[b]? = w3.heap[b]? := fun b cs f e => hoth b fun e2 => by
              rw [e2, hh3] at e; simp at e
            have HFn : Hid (NmR w.heap.size F h N tr (i + 1) (cur.setIfInBounds i (.slice ad3 zr.length cp3))) := by
              (refine ⟨by rw [hF, blk_setS hh3], by rw [Array.size_setIfInBounds]; exact HNm.out.size, fun j r' hj hr' => ?_⟩)
              rcases Nat.lt_or_ge j i with h1 | h1
              · obtain ⟨ad, cp, e1, e2⟩ := HNm.out.each j r' h1 hr'
                (exact ⟨ad, cp, by rw [Array.getElem?_setIfInBounds_ne (by omega)]; exact e1, KS.stay (KS.up e2 HB3.out) hstr⟩)
              · have hji : j = i := by omega
                subst hji; rw [HRi.out] at hr'
                cases hr'
                rw [← HZr.out]; exact ⟨ad3, cp3, Array.getElem?_setIfInBounds_self_of_lt (Array.getElem?_eq_some_iff.1 HCi.out).1, ks_lowS (KS.stay HK3.out hstr) HVi2.out.below.size⟩
            clear hF hh3 hoth hstr p1a p1b p1c m3 f3 p0 p1 p2; go_wp2_with fail
            go_roundg (tr.length - (i + 1))
            case measure => have := HGk.out; have := HI.out; omega
            case rel => exact ⟨i + 1, _, HI.out, rfl, by go_num, HFg, HFn, HFv⟩
          · have hii : i = tr.length := by omega
            subst hii; (have hge : ¬ (tr.length : Int) < (tr.length : Int) := by omega); obtain ⟨m0, m1, m2, m3⟩ := blk2 HVi2.out.out; have o0 := blk_fz HVi2.out.out 0; have o1 := blk_fz HVi2.out.out 1; clear hlt hi; go_wp2_with fail; obtain ⟨E, hE⟩ : ∃ E, E = (wr.setCell ⟨w.heap.size + 1, 0, none⟩ (.slice (some ⟨g, 0, none⟩) N N)).setCell ⟨w.heap.size + 1, 1, none⟩ (.slice (some ⟨h, 0, none⟩) N N) := ⟨_, rfl⟩; rw [← hE]
            have hEy : E.heap[w.heap.size + 1]? = some (.cells #[.slice (some ⟨g, 0, none⟩) N N, .slice (some ⟨h, 0, none⟩) N N] 84 (0, 0)) := by
              rw [hE, blk_setS (blk_setS HVi2.out.out _)]; rfl
            (have hfar : ∀ b, b ≠ w.heap.size + 1 → E.heap[b]? = wr.heap[b]? := fun b hb => by rw [hE, blk_otherS _ hb, blk_otherS _ hb])
            have hEB : Below w.heap.size w E := by
              rw [hE]; (exact (HVi2.out.below.setCell (p := ⟨w.heap.size + 1, 0, none⟩) (by simp) _).setCell (p := ⟨w.heap.size + 1, 1, none⟩) (by simp) _)
            have hnm : NmR w.heap.size E h N tr tr.length cur := HNm.out.move (hfar h (by have := HVi2.out.low; omega)) fun b cs f e => hfar b fun e2 => by
              rw [e2, HVi2.out.out] at e; simp at e
            have HVw : Hid (VwR E N (relB rel) (tr.map nmz) (.agg #[.slice (some ⟨g, 0, none⟩) N N, .slice (some ⟨h, 0, none⟩) N N])) := by
              (refine ⟨g, h, rfl, fun u hu => ?_, by rw [List.length_map, HTl.out], fun j r hj => ?_⟩)
              · have : E.heap[g]? = some (.cells (frC N rel) 71 (0, 0)) := (hfar g (by have := HVi2.out.low; omega)).trans HFr2.out
                rw [blk_cell this, frC_get _ hu]
              · rw [List.getElem?_map] at hj
                cases hj2 : tr[j]? with
                | none => rw [hj2] at hj; cases hj
                | some r0 =>
                  rw [hj2] at hj
                  cases hj
                  obtain ⟨ad, cp, h1, h2⟩ := hnm.each j r0 (List.getElem?_eq_some_iff.1 hj2).1 hj2; (exact ⟨_, by rw [blk_cell hnm.blk]; exact h1, slT h2⟩)
            clear m0 m1 m2 m3 o0 o1 p0 p1 p2 k0 k1 k2 hfar hnm; obtain ⟨j0, j1, -⟩ := blk2 hEy; (refine bodyPost_ret (v := .agg #[.slice (some ⟨g, 0, none⟩) N N, .slice (some ⟨h, 0, none⟩) N N]) (by clear hE; simp [results, Try.results39, go_sem, j0, j1]) rfl ⟨_, rfl, HVw.out, hEB⟩)
end Go.Proofs.Ytclinobfbdljhah
