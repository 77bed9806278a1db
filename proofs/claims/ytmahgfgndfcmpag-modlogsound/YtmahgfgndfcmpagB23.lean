/- Texts of one proof, one behind the other: MLE. -/
import Derived.Test.YtmahgfgndfcmpagB22
/- Walks: worlds that are kept (modlog.finder.keep), and the first without a part. -/
namespace Go.Proofs.Ytmahgfgndfcmpag
open Go.RowKit Go.Sort

theorem set5_4 {w : World} {b : Nat} {x0 x1 x2 x3 x4 : Value} {T : TypeId} (h : w.heap[b]? = some (.cells #[x0, x1, x2, x3, x4] T (0, 0))) (v : Value) : (w.setCell ⟨b, 4, none⟩ v).heap[b]? = some (.cells #[x0, x1, x2, x3, v] T (0, 0)) := by
  simp [World.setCell, Array.getElem?_modify, h]
theorem filter_take_yes {l : List Nat} {Q : Nat → Bool} {i x : Nat} (h : l[i]? = some x) (hq : Q x = true) : (l.take (i + 1)).filter Q = (l.take i).filter Q ++ [x] := by
  rw [sees_snoc h, List.filter_append]; simp [hq]
theorem filter_take_no {l : List Nat} {Q : Nat → Bool} {i x : Nat} (h : l[i]? = some x) (hq : Q x = false) : (l.take (i + 1)).filter Q = (l.take i).filter Q := by
  rw [sees_snoc h, List.filter_append]; simp [hq]
theorem WL.far {ps : List PartM} {w w' : World} {bF : Nat} {ad : Option Addr} {n cp : Nat} {l : List Nat} {c0 c1 c2 c3 c4 : Value} {p : Option Addr} (h : WL ps w (.slice ad n cp) l) (hF : w.heap[bF]? = some (.cells #[c0, c1, c2, c3, c4] 140 (0, 0))) (hc : c0 = .pointer p) (hk : ∀ b, b < w.heap.size → b ≠ bF → w'.heap[b]? = w.heap[b]?) : WL ps w' (.slice ad n cp) l := by
  obtain ⟨ad', cap, h1, h2, h3, h4⟩ := h; (refine ⟨ad', cap, h1, h2, h3, fun hne => ?_⟩); obtain ⟨g, h5, h6⟩ := h4 hne
  have hg : g ≠ bF := fun e => by
    cases l with
    | nil => exact hne rfl
    | cons x l =>
      have h7 := (h6 0 x rfl).1; rw [e] at h7; rw [blk_cell hF] at h7; simp [hc] at h7
  (refine ⟨g, h5, fun j x hj => ?_⟩); obtain ⟨a, b, c⟩ := h6 j x hj; have hs := hk g (lt_of_cell a) hg; exact ⟨(cell_of_block hs).trans a, (cell_of_block hs).trans b, (cell_of_block hs).trans c⟩
set_option maxRecDepth 10000 in
set_option maxHeartbeats 8000000 in
theorem keepW_any {ps : List PartM} {fn : Nat} {cap : Array Value} (bF bt fq : Nat) (its sm : Bool) (ad9 : Option Addr) (cp9 : Nat) (l : List Nat) (hl : l.length ≤ 100000) (Q : Nat → Bool) (w : World) (hF : FdAt w bF bt fn cap its sm ad9 l.length cp9) (hv : WL ps w (.slice ad9 l.length cp9) l)
    (hent : ∀ (a : Array Value) (w : World), (callFunc fq a).run Try.prog w = .ok (.enter fq a) w) (hcall : ∀ (x : Nat) (w' : World), Below w.heap.size w w' → Calls Try.prog fq #[.pointer (some ⟨bF, 0, none⟩), WV ps x] w' fun e w'' => e = .returned (.bool (Q x)) ∧ Below w'.heap.size w' w'') :
    Calls Try.prog 90 #[.pointer (some ⟨bF, 0, none⟩), .func (.func fq) #[.pointer (some ⟨bF, 0, none⟩)] #[]] w fun e w' => ∃ ad cp, e = .returned (.tuple #[]) ∧ FdAt w' bF bt fn cap its sm ad (l.filter Q).length cp ∧ WL ps w' (.slice ad (l.filter Q).length cp) (l.filter Q) ∧ Kept (fun b => b ≠ bF) w w' := by
  (have HC : Hid (∀ (x : Nat) (w' : World), Below w.heap.size w w' → Calls Try.prog fq #[.pointer (some ⟨bF, 0, none⟩), WV ps x] w' fun e w'' => e = .returned (.bool (Q x)) ∧ Below w'.heap.size w' w'') := hcall); have HF : Hid (w.heap[bF]? = some (.cells #[.pointer (some ⟨bt, 0, none⟩), .func (.func fn) #[] cap, .bool its, .bool sm, .slice ad9 l.length cp9] 140 (0, 0))) := hF; obtain ⟨ad, cp, e, h1, h2, h3⟩ := hv; simp only [Value.slice.injEq, true_and] at e; obtain ⟨rfl, rfl⟩ := e; have HV : Hid (l ≠ [] → ∃ g, ad9 = some ⟨g, 0, none⟩ ∧ ∀ (j x : Nat), l[j]? = some x → w.cell? ⟨g, j * 3, none⟩ = some (.int .u64 (x : Nat)) ∧ w.cell? ⟨g, j * 3 + 1, none⟩ = some (.int .u64 (bm ps.length (wnB ps x) : Nat)) ∧ w.cell? ⟨g, j * 3 + 2, none⟩ = some (.int .u64 (bm ps.length (swB ps x) : Nat))) := h3; (have hlI : (l.length : Int) ≤ 100000 := by omega); (have hcI : (l.length : Int) ≤ (cp9 : Int) := by omega); have HLl : Hid (l.length ≤ 100000) := hl; obtain ⟨f0, f1, f2, f3, f4, -⟩ := blkF HF.out; unfold WV at HC; clear h1 h2 h3 hF hcall hl
  go_enter Try.func90, Try.ntmps90
  go_wp2_with fail; clear f0 f1 f2 f3 f4
  go_loopg [12, 4, 6] l.length (fun gg cc x p9 wr => ∃ i ad cp, i ≤ l.length ∧ gg = l.length - i ∧ cc = .int .i64 (i : Nat) ∧ x = .slice ad ((l.take i).filter Q).length cp ∧ Hid (wr.ownsRow w.heap.size 104 3 (.slice ad ((l.take i).filter Q).length cp) ((l.take i).filter Q).length (encW ps ((l.take i).filter Q))) ∧ Hid (Below w.heap.size w wr))
  case atStart => exact ⟨0, none, 0, by omega, by omega, rfl, by rw [List.take_zero]; rfl, by rw [List.take_zero]; exact ⟨rfl, Or.inl ⟨rfl, rfl⟩⟩, Below.refl _ _⟩
  case round =>
    obtain ⟨i, ad, cp, hi, hg, rfl, rfl, HOw, HB⟩ := hrel; have HGk : Hid (gk = l.length - i) := hg; clear hg; by_cases hlt : i < l.length
    case neg =>
      (have hii : i = l.length := by omega); have hge : decide (i < l.length) = false := decide_eq_false hlt; (have htk : l.take i = l := by rw [hii, List.take_length]); rw [htk] at HOw ⊢; clear hlt hi hii htk; have HFr : Hid (wr.heap[bF]? = some (.cells #[.pointer (some ⟨bt, 0, none⟩), .func (.func fn) #[] cap, .bool its, .bool sm, .slice ad9 l.length cp9] 140 (0, 0))) := below_keep HB.out HF.out; obtain ⟨f0, f1, f2, f3, f4, f5⟩ := blkF HFr.out; generalize hLL : l.filter Q = LL at *; obtain ⟨V, hV⟩ : ∃ V, V = wr.setCell ⟨bF, 4, none⟩ (.slice ad LL.length cp) := ⟨_, rfl⟩; (have HFV : Hid (V.heap[bF]? = some (.cells #[.pointer (some ⟨bt, 0, none⟩), .func (.func fn) #[] cap, .bool its, .bool sm, .slice ad LL.length cp] 140 (0, 0))) := by rw [hV]; exact set5_4 HFr.out _); (have hfar : ∀ b, b ≠ bF → V.heap[b]? = wr.heap[b]? := fun b hb => by rw [hV]; exact farM hb _); (have HWV : Hid (WL ps V (.slice ad LL.length cp) LL) := (WL.own HOw.out).far HFr.out rfl fun b _ hb => hfar b hb)
      have HKV : Hid (Kept (fun b => b ≠ bF) w V) := by
        rw [hV]; exact Kept.set (Kept.belowK (Kept.refl _ _) HB.out) _
      have hVe := hV.symm; clear hV hfar HOw; go_wp2_with fail
      try rw [hVe]
      go_end0
      refine ⟨ad, cp, rfl, ?_, ?_, HKV.out⟩
      · rw [hLL]; exact HFV.out
      · rw [hLL]; exact HWV.out
    (have hltI : (i : Int) < (l.length : Int) := by omega); (have hltc : (i : Int) < (cp9 : Int) := by omega); have HI : Hid (i < l.length) := hlt; obtain ⟨y, hy⟩ : ∃ y, l[i]? = some y := ⟨_, List.getElem?_eq_getElem hlt⟩; have HY : Hid (l[i]? = some y) := hy; (obtain ⟨g, hgad, hgc⟩ := HV.out (fun e => by rw [e] at hlt; simp at hlt)); subst hgad; obtain ⟨g0, g1, g2⟩ := hgc i y hy; have k0 := (HB.out.cell (lt_of_cell g0)).trans g0; have k1 := (HB.out.cell (lt_of_cell g1)).trans g1; have k2 := (HB.out.cell (lt_of_cell g2)).trans g2; (have HCy : Hid (∀ w', Below w.heap.size w w' → Calls Try.prog fq #[.pointer (some ⟨bF, 0, none⟩), .agg #[.int .u64 (y : Nat), .int .u64 (bm ps.length (wnB ps y) : Nat), .int .u64 (bm ps.length (swB ps y) : Nat)]] w' _) := fun w' hb => HC.out y w' hb); obtain ⟨yw, hyw⟩ : ∃ x, x = bm ps.length (wnB ps y) := ⟨_, rfl⟩; obtain ⟨ys, hys⟩ : ∃ x, x = bm ps.length (swB ps y) := ⟨_, rfl⟩; rw [← hyw] at k1 HCy; rw [← hys] at k2 HCy; (have HEn : Hid (∀ LL, encW ps LL ++ [.int .u64 (y : Nat), .int .u64 (yw : Nat), .int .u64 (ys : Nat)] = encW ps (LL ++ [y])) := fun LL => by rw [hyw, hys, encW_app]; rfl); obtain ⟨r, hr⟩ : ∃ r, r = Q y := ⟨_, rfl⟩; rw [← hr] at HCy; have HRr : Hid (r = Q y) := hr
    have HLn : Hid (((l.take i).filter Q).length ≤ i) := by
      have h5 := List.length_filter_le Q (l.take i); (have h6 : (l.take i).length ≤ i := by rw [List.length_take]; omega); show _ ≤ _; omega
    (have HTy : Hid (Q y = true → (l.take (i + 1)).filter Q = (l.take i).filter Q ++ [y]) := fun h => filter_take_yes hy h); (have HTn : Hid (Q y = false → (l.take (i + 1)).filter Q = (l.take i).filter Q) := fun h => filter_take_no hy h); generalize (l.take i).filter Q = LL at *; (have hlnI : (LL.length : Int) ≤ 100000 := by have := HLn.out; omega); clear hlt hi hgc g0 g1 g2 hyw hys hr hy; obtain ⟨X, hX⟩ : ∃ X, X = wr.alloc (.cells #[.int .u64 (y : Nat), .int .u64 (yw : Nat), .int .u64 (ys : Nat)] 104 (0, 0)) := ⟨_, rfl⟩; (have hbX : Below wr.heap.size wr X := by rw [hX]; exact below_more (Below.refl _ _) _); have HBX : Hid (Below w.heap.size w X) := below_join HB.out hbX; (have HXy : Hid (X.heap[wr.heap.size]? = some (.cells #[.int .u64 (y : Nat), .int .u64 (yw : Nat), .int .u64 (ys : Nat)] 104 (0, 0))) := by rw [hX]; exact blk_new _ _); have HXo : Hid (X.ownsRow w.heap.size 104 3 (.slice ad LL.length cp) LL.length (encW ps LL)) := rowM_up HOw.out hbX; obtain ⟨z0, z1, z2, -⟩ := blk3 HXy.out; have hXe := hX.symm; clear hbX hX; go_wp2_with fail
    try rw [hXe]
    clear hXe k0 k1 k2 z0 z1 z2; refine (HCy.out X HBX.out).mono ?_; rintro _ w2 ⟨rfl, hb2⟩; have HB2 : Hid (Below w.heap.size w w2) := below_join HBX.out hb2; have HO2 : Hid (w2.ownsRow w.heap.size 104 3 (.slice ad LL.length cp) LL.length (encW ps LL)) := rowM_up HXo.out hb2; obtain ⟨z0, z1, z2, -⟩ := blk3 (below_keep hb2 HXy.out); clear hb2
    cases r
    · have HT9 : Hid ((l.take (i + 1)).filter Q = LL) := HTn.out HRr.out.symm
      clear HTy HTn; go_wp2_with fail
      go_roundg (l.length - (i + 1))
      case measure => have := HGk.out; have := HI.out; omega
      case rel => exact ⟨i + 1, ad, cp, HI.out, rfl, by go_num, by rw [HT9.out], by rw [HT9.out]; exact HO2, HB2⟩
    · have HT9 : Hid ((l.take (i + 1)).filter Q = LL ++ [y]) := HTy.out HRr.out.symm
      obtain ⟨i0, hi0, hz0, hz1, hz2⟩ := infoW; clear HTy HTn
      go_wp2_with (first
        | (at_builtin
           have hsz := HB2.out.size; have hlm := HLn.out; have hnm := HLl.out; have hil := HI.out; have hown := rowM_up HO2.out ((Below.refl _ w2).alloc (Nat.le_refl _) (.cells #[.int .u64 (y : Nat), .int .u64 (yw : Nat), .int .u64 (ys : Nat)] 104 (0, 0))); (refine wpList_append_lies _ rfl _ _ 137 rfl w.heap.size 104 i0 (.agg #[.int .u64 0, .int .u64 0, .int .u64 0]) 3 24 Try.underlying137 hi0 hz0 hz1 hz2 rfl (by decide) (.slice ad LL.length cp) LL.length (encW ps LL) rfl hown ⟨w2.heap.size, 0, none⟩ 1 1 [.int .u64 (y : Nat), .int .u64 (yw : Nat), .int .u64 (ys : Nat)] rfl rfl ?_ ?_ (by omega) (by unfold maxLen; omega) (by omega) (by simp; omega) _ rfl ?_)
           · intro j u hu
             rw [add_none, Nat.zero_add, blk_cell (blk_new w2 _)]; simpa using hu
           · intro u hu
             simp at hu
             rcases hu with rfl | rfl | rfl <;> rfl
           intro g3 cp3 w3 hown3 hgrow hat hlt3; have hgrow' : (w2.alloc (.cells #[.int .u64 (y : Nat), .int .u64 (yw : Nat), .int .u64 (ys : Nat)] 104 (0, 0))).grownBy w3 (Value.slice ad LL.length cp).ownBlock := hgrow; have hlt' := HO2.out.lt; (have HB3 : Hid (Below w.heap.size w w3) := ((HB2.out.alloc hsz _).grown hgrow' (by simp; omega) fun k hk => by have := (hlt' k hk).1; omega)); have HOw3 : Hid (w3.ownsRow w.heap.size 104 3 (.slice (some ⟨g3, 0, none⟩) (LL.length + 1) cp3) (LL.length + 1) (encW ps LL ++ [.int .u64 (y : Nat), .int .u64 (yw : Nat), .int .u64 (ys : Nat)])) := hown3
           clear hgrow hgrow' hat hown3 hown hlt' hsz hlt3 hi0 hz0 hz1 hz2 hlm hnm hil)
        | fail)
      (have hl9 : ((l.take (i + 1)).filter Q).length = LL.length + 1 := by rw [HT9.out]; simp)
      go_roundg (l.length - (i + 1))
      case measure => have := HGk.out; have := HI.out; omega
      case rel =>
        (refine ⟨i + 1, some ⟨g3, 0, none⟩, cp3, HI.out, rfl, by go_num, by rw [hl9], ?_, HB3⟩); rw [hl9, HT9.out, ← HEn.out]; exact HOw3
theorem without1_in (cap : Array Value) (w : World) : (callFunc 94 cap).run Try.prog w = .ok (.enter 94 cap) w := by simp [go_sem]
set_option maxHeartbeats 1000000 in
theorem without1_any {ps : List PartM} (hL : ps.length ≤ 40) (m x bn : Nat) (hm : m < ps.length) (hx : x < 2 ^ ps.length) (w : World) (hc : w.heap[bn]? = some (.cells #[.int .i64 (m : Nat)] 3 (0, 0))) :
    Calls Try.prog 94 #[WV ps x, .pointer (some ⟨bn, 0, none⟩)] w fun e w' => e = .returned (.bool (!x.testBit m)) ∧ Below w.heap.size w w' := by
  (have HH : Hid (∀ w, Calls Try.prog 62 #[.int .u64 (x : Nat), .int .i64 (m : Nat)] w _) := fun w => hasW hL hx m hm w); unfold WV; generalize bm ps.length (wnB ps x) = yw at *; generalize bm ps.length (swB ps x) = ys at *; generalize x.testBit m = r at *; obtain ⟨X, hX⟩ : ∃ X, X = w.alloc (.cells #[.int .u64 (x : Nat), .int .u64 (yw : Nat), .int .u64 (ys : Nat)] 104 (0, 0)) := ⟨_, rfl⟩; (have hb : Below w.heap.size w X := by rw [hX]; exact below_more (Below.refl _ _) _); have HB : Hid (Below w.heap.size w X) := hb; have c0 := blkC (below_keep hb hc); (obtain ⟨z0, z1, z2, -⟩ := blk3 (show X.heap[w.heap.size]? = some _ by rw [hX]; exact blk_new _ _)); have hXe := hX.symm; clear hX hb hc hL hm hx
  go_enter Try.func94, Try.ntmps94
  go_wp2_with fail; refine (HH.out _).mono ?_; rintro _ w9 ⟨rfl, e9⟩
  replace e9 := e9.symm
  subst e9; go_wp2_with fail; go_ret; exact ⟨rfl, HB.out⟩
/-- The place of the first that is so, or -1. -/
def fstW (l : List Nat) (Q : Nat → Bool) : Int := if l.any Q then (l.findIdx Q : Int) else -1
theorem fst_yes {l : List Nat} {Q : Nat → Bool} {i x : Nat} (hi : l[i]? = some x) (hx : Q x = true) (hb : ∀ j, j < i → ∀ y, l[j]? = some y → Q y = false) : fstW l Q = (i : Int) := by
  have hil := (List.getElem?_eq_some_iff.1 hi).1; have e1 : l[i] = x := (List.getElem?_eq_some_iff.1 hi).2; have h1 : l.any Q = true := List.any_eq_true.2 ⟨x, List.mem_of_getElem? hi, hx⟩
  have h2 : l.findIdx Q = i := by
    rw [List.findIdx_eq hil]; (refine ⟨by rw [e1]; exact hx, fun j hj => hb j hj _ (List.getElem?_eq_getElem (by omega))⟩)
  rw [fstW, h1, h2]; rfl
theorem fst_no {l : List Nat} {Q : Nat → Bool} (hb : ∀ j, j < l.length → ∀ y, l[j]? = some y → Q y = false) : fstW l Q = -1 := by
  have : l.any Q = false := by
    rw [List.any_eq_false]; intro x hx; obtain ⟨j, hj⟩ := List.getElem?_of_mem hx; rw [hb j (List.getElem?_eq_some_iff.1 hj).1 x hj]
    simp
  rw [fstW, this]; rfl
set_option maxRecDepth 10000 in
set_option maxHeartbeats 4000000 in
theorem idxW_any {ps : List PartM} (fq : Nat) (cq : Array Value) (l : List Nat) (hl : l.length ≤ 100000) (Q : Nat → Bool) (v : Value) (w : World) (hv : WL ps w v l)
    (hent : ∀ (a : Array Value) (w : World), (callFunc fq a).run Try.prog w = .ok (.enter fq a) w) (hcall : ∀ (x : Nat) (w' : World), x ∈ l → Below w.heap.size w w' → Calls Try.prog fq (#[WV ps x] ++ cq) w' fun e w'' => e = .returned (.bool (Q x)) ∧ Below w'.heap.size w' w'') :
    Calls Try.prog 93 #[v, .func (.func fq) #[] cq] w fun e w' => e = .returned (.int .i64 (fstW l Q)) ∧ Below w.heap.size w w' := by
  (have HC : Hid (∀ (x : Nat) (w' : World), x ∈ l → Below w.heap.size w w' → Calls Try.prog fq (#[WV ps x] ++ cq) w' fun e w'' => e = .returned (.bool (Q x)) ∧ Below w'.heap.size w' w'') := hcall); obtain ⟨ad, cp, rfl, h1, h2, h3⟩ := hv; have HV : Hid (l ≠ [] → ∃ g, ad = some ⟨g, 0, none⟩ ∧ ∀ (j x : Nat), l[j]? = some x → w.cell? ⟨g, j * 3, none⟩ = some (.int .u64 (x : Nat)) ∧ w.cell? ⟨g, j * 3 + 1, none⟩ = some (.int .u64 (bm ps.length (wnB ps x) : Nat)) ∧ w.cell? ⟨g, j * 3 + 2, none⟩ = some (.int .u64 (bm ps.length (swB ps x) : Nat))) := h3; (have hlI : (l.length : Int) ≤ 100000 := by omega); (have hcI : (l.length : Int) ≤ (cp : Int) := by omega); unfold WV at HC; clear h1 h2 h3 hcall hl
  go_enter Try.func93, Try.ntmps93
  go_wp2_with fail
  go_loopg [8, 5] l.length (fun gg cc p9 wr => ∃ i, i ≤ l.length ∧ gg = l.length - i ∧ cc = .int .i64 (i : Nat) ∧ Hid (∀ j, j < i → ∀ y, l[j]? = some y → Q y = false) ∧ Hid (Below w.heap.size w wr))
  case atStart => exact ⟨0, by omega, by omega, rfl, fun j hj => absurd hj (Nat.not_lt_zero _), Below.refl _ _⟩
  case round =>
    obtain ⟨i, hi, hg, rfl, HQ, HB⟩ := hrel; have HGk : Hid (gk = l.length - i) := hg; clear hg; by_cases hlt : i < l.length
    case neg =>
      (have hii : i = l.length := by omega); have hge : decide (i < l.length) = false := decide_eq_false hlt; (have HN : Hid (fstW l Q = -1) := fst_no (by rw [← hii]; exact HQ.out)); clear hlt hi hii; go_wp2_with fail; go_ret; (exact ⟨by rw [HN.out]; rfl, HB.out⟩)
    (have hltI : (i : Int) < (l.length : Int) := by omega); (have hltc : (i : Int) < (cp : Int) := by omega); have HI : Hid (i < l.length) := hlt; obtain ⟨y, hy⟩ : ∃ y, l[i]? = some y := ⟨_, List.getElem?_eq_getElem hlt⟩; have HY : Hid (l[i]? = some y) := hy; (obtain ⟨g, rfl, hgc⟩ := HV.out (fun e => by rw [e] at hlt; simp at hlt)); obtain ⟨g0, g1, g2⟩ := hgc i y hy; have k0 := (HB.out.cell (lt_of_cell g0)).trans g0; have k1 := (HB.out.cell (lt_of_cell g1)).trans g1; have k2 := (HB.out.cell (lt_of_cell g2)).trans g2; have HCy : Hid (Calls Try.prog fq (#[.agg #[.int .u64 (y : Nat), .int .u64 (bm ps.length (wnB ps y) : Nat), .int .u64 (bm ps.length (swB ps y) : Nat)]] ++ cq) wr _) := HC.out y wr (List.mem_of_getElem? hy) HB.out; generalize bm ps.length (wnB ps y) = yw at *; generalize bm ps.length (swB ps y) = ys at *; obtain ⟨r, hr⟩ : ∃ r, r = Q y := ⟨_, rfl⟩; rw [← hr] at HCy; have HRr : Hid (r = Q y) := hr; clear hlt hi hgc g0 g1 g2 hr hy; go_wp2_with fail; refine HCy.out.mono ?_; rintro _ w2 ⟨rfl, hb2⟩; have HB2 : Hid (Below w.heap.size w w2) := below_join HB.out hb2; clear hb2 k0 k1 k2
    cases r
    · go_wp2_with fail
      go_roundg (l.length - (i + 1))
      case measure => have := HGk.out; have := HI.out; omega
      case rel =>
        (refine ⟨i + 1, HI.out, rfl, by go_num, fun j hj z hz => ?_, HB2⟩); by_cases e : j = i
        · rw [e, HY.out] at hz
          rw [← Option.some.inj hz]; exact HRr.out.symm
        · exact HQ.out j (by omega) z hz
    · have HE : Hid (fstW l Q = (i : Int)) := fst_yes HY.out HRr.out.symm HQ.out
      go_wp2_with fail; go_ret; (exact ⟨by rw [HE.out]; rfl, HB2.out⟩)
end Go.Proofs.Ytmahgfgndfcmpag
