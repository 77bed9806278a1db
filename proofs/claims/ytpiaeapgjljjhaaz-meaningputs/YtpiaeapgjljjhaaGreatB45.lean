/- Texts of one proof, one behind the other: RM4, MQ1, MQ2, MQ3, MQ4, MQ5, MQ6. -/
import Derived.Test.YtpiaeapgjljjhaaGreatB42
import Derived.Test.YtpiaeapgjljjhaaGreatB44
import Derived.Test.YtpiaeapgjljjhaaGreatB40
import Derived.Test.YtpiaeapgjljjhaaGreatB09
import Derived.Test.YtpiaeapgjljjhaaGreatB18
import Derived.Test.YtpiaeapgjljjhaaGreatB11
import Derived.Test.YtpiaeapgjljjhaaGreatB13
import Derived.Test.YtpiaeapgjljjhaaGreatB06
import Derived.Test.YtpiaeapgjljjhaaGreatB01
import Derived.Test.YtpiaeapgjljjhaaGreatB10
import Derived.RegionTactic
import Derived.Laws.EntriesVeiled
import Derived.Test.YtpiaeapgjljjhaaGreatB04
import Derived.Test.YtpiaeapgjljjhaaGreatB43
import Derived.Deep.RegionHeld3
import Derived.Test.YtpiaeapgjljjhaaGreatB37
/- The law MeaningNumbers: up to its loop; its answer where the structure is none. -/
namespace Go.Proofs.YtpiaeapgjljjhaaGreat
open Go.RowKit Go.Sort

theorem sfault_any (s : StD) (v : Value) (w : World) (hS : StR w s v) :
    Calls Tryz.prog 35 #[v] w fun e w' => e = .returned (.agg #[.int .i64 (stcode s).1, .int .i64 (stcode s).2]) ∧ Below w.heap.size w w' := by
  unfold stcode; by_cases hok : 1 ≤ s.n ∧ s.n ≤ 8 ∧ s.funs.length ≤ 10 ∧ s.preds.length ≤ 10
  · rw [if_pos hok]
    (have hN : s.n = ((s.n.toNat : Nat) : Int) := by omega); (exact sfFine_any s.n.toNat s hN v w hS (by omega) (by omega) hok.2.2.1 hok.2.2.2)
  · rw [if_neg hok]
    exact sfMany_any s v w hS hok
theorem fnsOk_of {s : StD} (h : (stcode s).1 = 0) : FnsOk s.n.toNat s.funs := by
  intro f hf; obtain ⟨h1, h2, h3, h4, h5⟩ := fnf_none _ _ _ (st_zero h).1 f hf; (refine ⟨f.ar.toNat, by omega, by omega, h4, fun x hx => ?_⟩); have := h5 x hx; unfold thingB at this; simpa using this
end Go.Proofs.YtpiaeapgjljjhaaGreat
/- Plain: what functions mean where names are there once; words with all that they need. -/
namespace Go.Proofs.YtpiaeapgjljjhaaGreat
open Go.RowKit Go.Sort Go.Maps Go.WideMaps

theorem cfF_seen {N : Nat} : ∀ (l : List FnD) (i : Nat) (sn : List (List UInt8)), cfF N i sn l = none → ∀ f ∈ l, f.nm.data.toList ∉ sn
  | [], _, _, _, f, h => by cases h
  | g :: l, i, sn, h, f, hm => by
    rw [cfF] at h
    split at h
    · cases h
    · rename_i h1
      split at h
      · cases h
      · rcases List.mem_cons.1 hm with rfl | hm
        · intro hin
          unfold lkF at h1; (rw [if_pos (Or.inl (by simpa using hin))] at h1)
          cases h1
        · intro hin
          exact cfF_seen l _ _ h f hm (List.mem_cons_of_mem _ hin)
theorem fold_skip {t : List UInt8} : ∀ (l : List FnD) (a : Option FnD), (∀ h ∈ l, t ≠ h.nm.data.toList) → l.foldl (fun a f => if t = f.nm.data.toList then some f else a) a = a
  | [], a, _ => rfl
  | g :: l, a, h => by
    rw [List.foldl_cons, if_neg (h g (List.mem_cons_self ..))]; (exact fold_skip l a fun x hx => h x (List.mem_cons_of_mem _ hx))
theorem fold_one {N : Nat} : ∀ (l : List FnD) (i : Nat) (sn : List (List UInt8)), cfF N i sn l = none → ∀ f ∈ l, ∀ a, l.foldl (fun a g => if f.nm.data.toList = g.nm.data.toList then some g else a) a = some f
  | [], _, _, _, f, h, _ => by cases h
  | g :: l, i, sn, h, f, hm, a => by
    have h0 := h; rw [cfF] at h
    split at h
    · cases h
    · split at h
      · cases h
      · rw [List.foldl_cons]
        by_cases hf : f ∈ l
        · exact fold_one l _ _ h f hf _
        · rcases List.mem_cons.1 hm with rfl | hm
          · rw [if_pos rfl]
            (refine fold_skip l _ fun x hx e => ?_); (exact cfF_seen l _ _ h x hx (by rw [e]; exact List.mem_cons_self ..))
          · exact absurd hm hf
/-- A function of the structure is what its name means. -/
theorem fn_once {s : StD} (h : (stcode s).1 = 0) {f : FnD} (hf : f ∈ s.funs) : (vwOf s).fn f.nm.data.toList = some f := fold_one s.funs _ _ (st_zero h).1 f hf none
mutual
/-- Variables have no args. -/
def WVr : Wd → Prop
  | .mk n ar => (isNm n.data.toList = true → ar = []) ∧ WVrs ar
def WVrs : List Wd → Prop
  | [] => True
  | x :: l => WVr x ∧ WVrs l
end
theorem wvrs_at : ∀ {l : List Wd} {i : Nat} {x : Wd}, WVrs l → l[i]? = some x → WVr x
  | y :: l, 0, x, hs, h => by simp at h; subst h; rw [WVrs] at hs; exact hs.1
  | y :: l, i + 1, x, hs, h => by rw [WVrs] at hs; exact wvrs_at (l := l) (i := i) hs.2 (by simpa using h)
mutual
theorem wchk_vr : ∀ (x : Wd) (s : Nat) (p f : PlF) (s' : Nat) (p' f' : PlF), wchk x s p f = .ok s' p' f' → WVr x
  | .mk n ar, s, p, f, s', p', f', h => by
    rw [wchk] at h
    split at h
    · cases h
    · split at h
      · cases h
      · rename_i h1
        have hn : isNm n.data.toList = true → ar = [] := fun hn => by
          unfold wnodeF at h1
          split at h1
          · cases h1
          · split at h1
            · cases h1
            · rename_i h2
              (exact List.length_eq_zero_iff.1 (Nat.eq_zero_of_not_pos fun hp => h2 ⟨hn, hp⟩))
        rw [WVr]
        split at h
        · split at h
          · cases h
          · exact ⟨hn, wchks_vr ar _ _ _ _ _ _ h⟩
        · exact ⟨hn, wchks_vr ar _ _ _ _ _ _ h⟩
theorem wchks_vr : ∀ (l : List Wd) (s : Nat) (p f : PlF) (s' : Nat) (p' f' : PlF), wchks l s p f = .ok s' p' f' → WVrs l
  | [], _, _, _, _, _, _, _ => by rw [WVrs]; trivial
  | x :: xs, s, p, f, s', p', f', h => by
    rw [wchks] at h
    split at h
    · cases h
    · rename_i h1
      rw [WVrs]; exact ⟨wchk_vr x _ _ _ _ _ _ h1, wchks_vr xs _ _ _ _ _ _ h⟩
end
/-- All of a word means something. -/
def WGood (V : VwD) (va : Vals) (x : Wd) : Prop := (∀ b ∈ bgWl (prW x), okN V b = true) ∧ ∀ t, isNm t = true → FrW t x → (va t).isSome = true
def WGoods (V : VwD) (va : Vals) (l : List Wd) : Prop := (∀ b ∈ bgWl (prWs l), okN V b = true) ∧ ∀ t, isNm t = true → FrWs t l → (va t).isSome = true
theorem WGoods.nil {V : VwD} {va : Vals} : WGoods V va [] := ⟨fun b h => (by rw [prWs] at h; cases h), fun t _ h => (by rw [FrWs] at h; exact h.elim)⟩
theorem WGoods.snoc {V : VwD} {va : Vals} : ∀ {l : List Wd} {x : Wd}, WGoods V va l → WGood V va x → WGoods V va (l ++ [x])
  | l, x, ⟨h1, h2⟩, ⟨g1, g2⟩ => by
    (refine ⟨fun b hb => ?_, fun t ht hf => ?_⟩)
    · rw [prWs_app, bgWl_app, List.mem_append] at hb
      rcases hb with hb | hb
      · exact h1 b hb
      · rw [prWs, prWs, List.append_nil] at hb
        exact g1 b hb
    · have key : ∀ l : List Wd, FrWs t (l ++ [x]) → FrWs t l ∨ FrW t x := fun l => by
        induction l with
        | nil => intro h; rw [List.nil_append, FrWs, FrWs] at h; exact Or.inr (h.resolve_right id)
        | cons y l ih =>
          intro h; rw [List.cons_append, FrWs] at h; rw [FrWs]
          rcases h with h | h
          · exact Or.inl (Or.inl h)
          · exact (ih h).imp Or.inr id
      rcases key l hf with h | h
      · exact h2 t ht h
      · exact g2 t ht h
theorem wpl_snoc {V : VwD} {va : List UInt8 → Nat} : ∀ (l : List Wd) (x : Wd), wpl V va (l ++ [x]) = wpl V va l + V.n ^ l.length * wv V va x
  | [], x => by rw [List.nil_append, wpl, wpl, wpl]; simp
  | y :: l, x => by
    rw [List.cons_append, wpl, wpl_snoc l x, wpl, List.length_cons, Nat.pow_succ, Nat.mul_add, Nat.add_assoc]
    congr 2
    rw [Nat.mul_comm (V.n ^ l.length) V.n, Nat.mul_assoc]
/-- A word of a big name. -/
theorem wgood_big {V : VwD} {va : Vals} {n : ByteArray} {ar : List Wd} (hg : WGoods V va ar) (hn : isNm n.data.toList = false) {f : FnD} (hf : V.fn n.data.toList = some f) (hb : isBg n.data.toList = true) (ha : f.ar = (ar.length : Int)) : WGood V va (.mk n ar) := by
  (refine ⟨fun b hm => ?_, fun t ht h => ?_⟩)
  · rw [prW, bgWl, if_pos hb, List.mem_append] at hm
    rcases hm with hm | hm
    · rw [List.mem_singleton.1 hm]
      unfold okN; simp only [Bool.false_eq_true, if_false, hf]; simpa using ha
    · exact hg.1 b hm
  · rw [FrW] at h
    rcases h with rfl | h
    · rw [hn] at ht; cases ht
    · exact hg.2 t ht h
theorem wgood_var {V : VwD} {va : Vals} {n : ByteArray} (hn : isNm n.data.toList = true) (hv : (va n.data.toList).isSome = true) : WGood V va (.mk n []) := by
  (refine ⟨fun b hm => ?_, fun t _ h => ?_⟩)
  · rw [prW, prWs, bgWl, if_neg (by rw [nm_noBg hn]; decide)] at hm
    cases hm
  · rw [FrW, FrWs] at h
    rcases h with rfl | h
    · exact hv
    · exact h.elim
/-- The last value of a name. -/
theorem va_last : ∀ (names : List (List UInt8)) (vals : List Int) (i : Nat) (t : List UInt8) (x : Int), names.length = vals.length → names[i]? = some t → vals[i]? = some x → (∀ j, i < j → j < names.length → names[j]? ≠ some t) → vaAt (names.zip vals) t = some x.toNat := by
  intro names vals i t x hl hn hx hno; have hi := (List.getElem?_eq_some_iff.1 hn).1; (have hz : (names.zip vals)[i]? = some (t, x) := by rw [List.getElem?_zip_eq_some]; exact ⟨hn, hx⟩); (have hzl : (names.zip vals).length = names.length := by rw [List.length_zip]; omega); have e : names.zip vals = (names.zip vals).take (i + 1) ++ (names.zip vals).drop (i + 1) := (List.take_append_drop _ _).symm; unfold vaAt; rw [e, List.foldl_append, List.take_add_one, hz]
  have hskip : ∀ (l : List (List UInt8 × Int)) (a : Option Nat), (∀ p ∈ l, t ≠ p.1) → l.foldl (fun a p => if t = p.1 then some p.2.toNat else a) a = a := by
    intro l
    induction l with
    | nil => intro a _; rfl
    | cons g l ih =>
      intro a h; rw [List.foldl_cons, if_neg (h g (List.mem_cons_self ..))]; (exact ih a fun p hp => h p (List.mem_cons_of_mem _ hp))
  (rw [hskip _ _ (fun p hp e2 => ?_)])
  · rw [List.foldl_append]
    (show (if t = t then some x.toNat else _) = _); rw [if_pos rfl]
  · obtain ⟨j, hj⟩ := List.getElem?_of_mem hp
    rw [List.getElem?_drop] at hj; have h1 := (List.getElem?_eq_some_iff.1 hj).1; rw [List.getElem?_zip_eq_some] at hj; (exact hno (i + 1 + j) (by omega) (by omega) (by rw [hj.1, e2]))
end Go.Proofs.YtpiaeapgjljjhaaGreat
/- Walks: the yardstick's value of a word, where it is a variable. -/
namespace Go.Proofs.YtpiaeapgjljjhaaGreat
open Go.RowKit Go.Sort

/-- What the value of a word tells. -/
def WvEnd (s : StD) (va : Vals) (x : Wd) (w : World) (e : Ending) (w' : World) : Prop := ∃ r : Int, e = .returned (.int .i64 r) ∧ Below w.heap.size w w' ∧ (0 ≤ r → WGood (vwOf s) va x ∧ r = ((wv (vwOf s) (vz va) x : Nat) : Int) ∧ r < s.n)
set_option maxRecDepth 100000 in
set_option maxHeartbeats 8000000 in
theorem wval_var (s : StD) (names : List (List UInt8)) (vals : List Int) (hst : (stcode s).1 = 0) (hl : names.length = vals.length) (hz : ∀ p ∈ names.zip vals, isNm p.1 = true ∧ thingB s.n.toNat p.2 = true) (w0 w : World) (sv nv xv : Value) (hS : StR w0 s sv) (hN : SL w0 nv names) (hV : IL w0 xv vals) (hb : Below w0.heap.size w0 w)
    (n : ByteArray) (hn : n.size ≤ maxLen) (sl : Option Addr) (cap : Nat) (hnm : isNm n.data.toList = true) (h20 : names.length ≤ 20) :
    Calls Tryz.prog 36 #[sv, .agg #[.string n, .slice sl 0 cap], nv, xv] w (WvEnd s (vaAt (names.zip vals)) (.mk n []) w) := by
  obtain ⟨-, hn1, hn8, -, -, hvok, hbg⟩ := st_ok hst; obtain ⟨af, cf, ap, cp, rfl, -, -⟩ := hS; obtain ⟨an, cn, rfl, m1, m2, m3⟩ := hN; obtain ⟨av, cv, rfl, v1, v2, v3⟩ := hV; have HNm : Hid (names ≠ [] → ∃ g off, an = some ⟨g, off, none⟩ ∧ ∀ (j : Nat) (t : List UInt8), names[j]? = some t → w0.cell? ⟨g, off + j, none⟩ = some (.string ⟨t.toArray⟩)) := m3; have HVl : Hid (vals ≠ [] → ∃ g off, av = some ⟨g, off, none⟩ ∧ ∀ (j : Nat) (x : Int), vals[j]? = some x → w0.cell? ⟨g, off + j, none⟩ = some (.int .i64 x)) := v3
  have HFn : Hid ((vwOf s).fn n.data.toList = none) := by
    show _ = _
    rcases hf : (vwOf s).fn n.data.toList with _ | f
    · rfl
    · have := hbg _ _ hf
      rw [nm_noBg hnm] at this
      cases this
  have HZ : Hid (names.length = vals.length ∧ names.length ≤ 20 ∧ (∀ p ∈ names.zip vals, isNm p.1 = true ∧ thingB s.n.toNat p.2 = true) ∧ 1 ≤ s.n ∧ isNm n.data.toList = true) := ⟨hl, h20, hz, hn1, hnm⟩; have HB0 : Hid (Below w0.heap.size w0 w) := hb; (have hlI : ((names.length : Nat) : Int) ≤ 20 := by omega); (have hcn : ((names.length : Nat) : Int) ≤ (cn : Int) := by omega); (have hcv : ((vals.length : Nat) : Int) ≤ (cv : Int) := by omega)
  have HIn : Hid (∀ W, Calls Tryz.prog 24 #[.string n] W fun e w' => e = .returned (.bool true) ∧ w' = W) := fun W => by
    have := refName_any n hn W; rw [hnm] at this; exact this
  obtain ⟨W, hW⟩ : ∃ W, W = (w.alloc (.cells #[.int .i64 s.n, .slice af s.funs.length cf, .slice ap s.preds.length cp] 62 (0, 0))).alloc (.cells #[.string n, .slice sl 0 cap] 44 (0, 0)) := ⟨_, rfl⟩; (have HW : Hid (Below w.heap.size w W) := by rw [hW]; exact below_more (below_more (Below.refl _ w) _) _); (have hq1 : W.heap[w.heap.size + 1]? = some (.cells #[.string n, .slice sl 0 cap] 44 (0, 0)) := by rw [hW]; exact blk_secE w _ _); have HQ1 : Hid (W.heap[w.heap.size + 1]? = some (.cells #[.string n, .slice sl 0 cap] 44 (0, 0))) := hq1; obtain ⟨e0, e1, -⟩ := blk2 hq1; have l1 := lt_of_block hq1; clear m1 m2 m3 v1 v2 v3 hb hn hnm h20 hl hz hn1 hn8 hvok hbg hst hq1
  go_enter Tryz.func36, Tryz.ntmps36
  go_wp2_with (first
    | (go_at_call 24
       refine (HIn.out _).mono ?_; rintro e w2 ⟨rfl, h2⟩; (obtain rfl : W = w2 := by rw [h2, hW])
       clear h2 hW)
    | fail)
  clear e0 e1 l1
  go_loopg [9] names.length (fun g c wr => ∃ j : Nat, j ≤ names.length ∧ g = j ∧ c = .int .i64 ((j : Int) - 1) ∧ Hid (∀ q, j ≤ q → q < names.length → names[q]? ≠ some n.data.toList) ∧ Hid (Below W.heap.size W wr))
  case atStart => exact ⟨names.length, Nat.le_refl _, rfl, rfl, fun q h1 h2 => by omega, Below.refl _ _⟩
  case round =>
    obtain ⟨j, hjl, hg, rfl, HNo, HBr⟩ := hrel; have HG : Hid (gk = j) := hg; clear hg; have hq1 := below_keep HBr.out HQ1.out; obtain ⟨e0, e1, -⟩ := blk2 hq1; have l1 := lt_of_block hq1; have HBw : Hid (Below w0.heap.size w0 wr) := below_join HB0.out (below_join HW.out HBr.out)
    rcases j with _ | j
    · have hneg : ¬ (0 : Int) ≤ ((0 : Nat) : Int) - 1 := by omega
      go_wp2_with fail; go_ret; (exact ⟨-1, rfl, below_join HW.out HBr.out, fun h => absurd h (by decide)⟩)
    · obtain ⟨t, ht⟩ : ∃ x, names[j]? = some x := ⟨_, List.getElem?_eq_getElem (by omega)⟩
      (have hjv : j < vals.length := by have := HZ.out.1; omega); obtain ⟨y, hy⟩ : ∃ x, vals[j]? = some x := ⟨_, List.getElem?_eq_getElem hjv⟩; (obtain ⟨g, off, rfl, hc⟩ := HNm.out (fun e => by rw [e] at ht; simp at ht)); (obtain ⟨gq, offq, rfl, hd⟩ := HVl.out (fun e => by rw [e] at hy; simp at hy)); have z0 := hc j t ht; have z1 := hd j y hy; have y0 := (HBw.out.cell (lt_of_cell z0)).trans z0; have y1 := (HBw.out.cell (lt_of_cell z1)).trans z1; have HY1 : Hid (wr.cell? ⟨gq, offq + j, none⟩ = some (.int .i64 y)) := y1; (have hje : ((j + 1 : Nat) : Int) - 1 = (j : Int) := by omega); rw [hje]; (have hjI : (j : Int) < (names.length : Int) := by omega); (have hjV : (j : Int) < (vals.length : Int) := by omega); (have hj0 : (0 : Int) ≤ (j : Int) := by omega); have HTy : Hid (names[j]? = some t ∧ vals[j]? = some y) := ⟨ht, hy⟩; clear ht hy hc hd z0 z1 HNm HVl hje; by_cases hte : t = n.data.toList
      · have htt : (t == n.toList) = true := by rw [ByteArray.toList_eq, hte]; simp
        have HTe : Hid (t = n.data.toList) := hte; clear hte; go_wp2_with fail
        go_quiet (fail)
        go_wp2_with fail; go_ret; (have hyz := HZ.out.2.2.1 (t, y) (List.mem_of_getElem? (by rw [List.getElem?_zip_eq_some]; exact HTy.out))); have hth := hyz.2; unfold thingB at hth; simp only [Bool.and_eq_true, decide_eq_true_eq] at hth; (have hva : vaAt (names.zip vals) n.data.toList = some y.toNat := va_last names vals j _ y HZ.out.1 (by rw [← HTe.out]; exact HTy.out.1) HTy.out.2 fun q h1 h2 => HNo.out q (by omega) h2); (refine ⟨y, rfl, below_join HW.out (by first | exact HBr.out | exact below_drewN HBr.out _), fun hy0 => ⟨wgood_var HZ.out.2.2.2.2 (by rw [hva]; rfl), ?_, by have := HZ.out.2.2.2.1; omega⟩⟩); rw [wv, HFn.out]; show y = ((vz (vaAt (names.zip vals)) n.data.toList : Nat) : Int); unfold vz; rw [hva]; show y = ((y.toNat : Nat) : Int); omega
      · have htt : (t == n.toList) = false := by
          rw [ByteArray.toList_eq]; simpa using hte
        have HTe : Hid (t ≠ n.data.toList) := hte; clear hte; go_wp2_with fail
        go_quiet (fail)
        go_wp2_with fail
        go_roundg j
        case measure => have := HG.out; omega
        case rel => exact ⟨j, by omega, rfl, by go_num, fun q h1 h2 => by
          rcases Nat.eq_or_lt_of_le h1 with h | h
          · rw [← h, HTy.out.1]
            (exact fun e => HTe.out (Option.some.inj e))
          · exact HNo.out q h h2, by first | exact HBr.out | exact below_drewN HBr.out _⟩
end Go.Proofs.YtpiaeapgjljjhaaGreat
/- Walks: the yardstick's value of a word (WordValue). -/
namespace Go.Proofs.YtpiaeapgjljjhaaGreat
open Go.RowKit Go.Sort

def WVS (s : StD) (names : List (List UInt8)) (vals : List Int) (w0 : World) (sv nv xv : Value) (m : Nat) : Prop := ∀ (x : Wd) (v : Value) (w : World), x.size < m → x.size ≤ 200 → WVr x → WRp w0 x v → Below w0.heap.size w0 w → Calls Tryz.prog 36 #[sv, v, nv, xv] w (WvEnd s (vaAt (names.zip vals)) x w)
theorem pow_le64 {N i : Nat} (hN : N ≤ 8) (hi : i ≤ 2) : N ^ i ≤ 64 := by
  (have h1 : N ^ i ≤ 8 ^ 2 := Nat.le_trans (Nat.pow_le_pow_left hN i) (Nat.pow_le_pow_right (by omega) hi)); omega
theorem take_snocV {l : List Wd} {i : Nat} {x : Wd} (h : l[i]? = some x) : l.take (i + 1) = l.take i ++ [x] := take_snocW h
set_option maxRecDepth 100000 in
set_option maxHeartbeats 16000000 in
theorem wval_step (s : StD) (names : List (List UInt8)) (vals : List Int) (hst : (stcode s).1 = 0) (hl : names.length = vals.length) (hz : ∀ p ∈ names.zip vals, isNm p.1 = true ∧ thingB s.n.toNat p.2 = true) (h20 : names.length ≤ 20) (w0 : World) (sv nv xv : Value) (hS : StR w0 s sv) (hN : SL w0 nv names) (hV : IL w0 xv vals) (m : Nat) (ih : WVS s names vals w0 sv nv xv m) : WVS s names vals w0 sv nv xv (m + 1) := by
  intro x v w hm hs hvr hx hb; obtain ⟨n, ar⟩ := x; have HX : Hid (WRp w0 (.mk n ar) v) := hx; obtain ⟨sl, cap, rfl, hn, -, hcm, -⟩ := WRp.def.1 hx; rw [WVr] at hvr
  rcases hnm : isNm n.data.toList with _ | _
  case true =>
    obtain rfl := hvr.1 hnm; exact wval_var s names vals hst hl hz w0 w sv nv xv hS hN hV hb n hn sl cap hnm h20
  have HNf : Hid (isNm n.data.toList = false) := hnm; obtain ⟨-, hn1, hn8, hf10, -, hvok, hbg⟩ := st_ok hst; have HSt : Hid ((stcode s).1 = 0) := hst; have HVk : Hid (VOk (vwOf s) ∧ ∀ t f, (vwOf s).fn t = some f → isBg t = true) := ⟨hvok, hbg⟩; have HFk : Hid (FnsOk s.n.toNat s.funs) := fnsOk_of hst; (have hva : ∀ t, vz (vaAt (names.zip vals)) t < s.n.toNat := fun t => va_lt (by omega) (fun p hp => (hz p hp).2) t); have HVa : Hid (∀ t, vz (vaAt (names.zip vals)) t < (vwOf s).n) := hva
  have HIHk : Hid (∀ (i : Nat) (n2 : ByteArray) (ar2 : List Wd) (sl2 : Option Addr) (cap2 : Nat) (W' : World), ar[i]? = some (.mk n2 ar2) → WRp w0 (.mk n2 ar2) (.agg #[.string n2, .slice sl2 ar2.length cap2]) → Below w0.heap.size w0 W' → Calls Tryz.prog 36 #[sv, .agg #[.string n2, .slice sl2 ar2.length cap2], nv, xv] W' (WvEnd s (vaAt (names.zip vals)) (.mk n2 ar2) W')) := fun i n2 ar2 sl2 cap2 W' h1 h2 h3 => by
    have h4 := sizes_at h1; rw [Wd.size] at hm hs; (exact ih _ _ W' (by omega) (by omega) (wvrs_at hvr.2 h1) h2 h3)
  have hal : ar.length ≤ 200 := by
    have := wlen_sizes ar; rw [Wd.size] at hs; omega
  obtain ⟨af, cf, ap, cp, rfl, hF, -⟩ := hS; obtain ⟨af', cf', e, f1, f2, f3⟩ := hF; simp only [Value.slice.injEq, true_and] at e; obtain ⟨rfl, rfl⟩ := e; have HF : Hid (s.funs ≠ [] → ∃ g off, af = some ⟨g, off, none⟩ ∧ ∀ (i : Nat) (f : FnD), s.funs[i]? = some f → ∃ sl cp, w0.cell? ⟨g, off + i * 3, none⟩ = some (.string f.nm) ∧ w0.cell? ⟨g, off + i * 3 + 1, none⟩ = some (.int .i64 f.ar) ∧ w0.cell? ⟨g, off + i * 3 + 2, none⟩ = some (.slice sl f.tab.length cp) ∧ FnR w0 f (.agg #[.string f.nm, .int .i64 f.ar, .slice sl f.tab.length cp])) := f3
  have HIn : Hid (∀ W, Calls Tryz.prog 24 #[.string n] W fun e w' => e = .returned (.bool false) ∧ w' = W) := fun W => by
    have := refName_any n hn W; rw [hnm] at this; exact this
  have HB0 : Hid (Below w0.heap.size w0 w) := hb; (obtain ⟨N, hNn⟩ : ∃ N : Nat, s.n = (N : Int) := ⟨s.n.toNat, by omega⟩); (have HNv : Hid (s.n = (N : Int) ∧ s.n.toNat = N ∧ (vwOf s).n = N ∧ 1 ≤ N ∧ N ≤ 8) := ⟨hNn, by omega, by show s.n.toNat = N; omega, by omega, by omega⟩); (have hfI : ((s.funs.length : Nat) : Int) ≤ 10 := by omega); (have hcf : ((s.funs.length : Nat) : Int) ≤ (cf : Int) := by omega); (have halI : ((ar.length : Nat) : Int) ≤ 200 := by omega); have HAl : Hid (ar.length ≤ 200) := hal; (have hNI : ((N : Nat) : Int) ≤ 8 := by omega); (have hNI0 : (0 : Int) ≤ ((N : Nat) : Int) := by omega); rw [hNn] at HIHk ⊢; obtain ⟨va, hvA⟩ : ∃ va, va = vaAt (names.zip vals) := ⟨_, rfl⟩; rw [← hvA] at HVa HIHk ⊢; obtain ⟨W, hW⟩ : ∃ W, W = (w.alloc (.cells #[.int .i64 (N : Nat), .slice af s.funs.length cf, .slice ap s.preds.length cp] 62 (0, 0))).alloc (.cells #[.string n, .slice sl ar.length cap] 44 (0, 0)) := ⟨_, rfl⟩; (have HW : Hid (Below w.heap.size w W) := by rw [hW]; exact below_more (below_more (Below.refl _ w) _) _); (have HQ0 : Hid (W.heap[w.heap.size]? = some (.cells #[.int .i64 (N : Nat), .slice af s.funs.length cf, .slice ap s.preds.length cp] 62 (0, 0))) := by show _ = _; rw [hW]; exact alloc_keep (blk_new _ _) _); (have hq1 : W.heap[w.heap.size + 1]? = some (.cells #[.string n, .slice sl ar.length cap] 44 (0, 0)) := by rw [hW]; exact blk_secE w _ _); have HQ1 : Hid (W.heap[w.heap.size + 1]? = some (.cells #[.string n, .slice sl ar.length cap] 44 (0, 0))) := hq1; obtain ⟨e0, e1, -⟩ := blk2 hq1; have l1 := lt_of_block hq1; clear hm hs hvr hx hb hn hcm hnm hst hl hz h20 hN hV ih hn1 hn8 hf10 hvok hbg hva hvA f1 f2 f3 hq1 hNn hal
  go_enter Tryz.func36, Tryz.ntmps36
  go_wp2_with (first
    | (go_at_call 24
       refine (HIn.out _).mono ?_; rintro e w2 ⟨rfl, h2⟩; (obtain rfl : W = w2 := by rw [h2, hW])
       clear h2 hW)
    | fail)
  clear e0 e1 l1
  go_loopg [12, 10, 11] ar.length (fun g c a b wr => ∃ (i : Nat) (A S : Int), i ≤ ar.length ∧ g = ar.length - i ∧ c = .int .i64 (i : Nat) ∧ a = .int .i64 A ∧ b = .int .i64 S ∧ Hid (Below W.heap.size W wr) ∧ Hid (WGoods (vwOf s) va (ar.take i)) ∧ Hid (ar.length ≤ 3 → A = ((wpl (vwOf s) (vz va) (ar.take i) : Nat) : Int) ∧ S = ((N ^ i : Nat) : Int)))
  case atStart => exact ⟨0, 0, 1, by omega, by omega, rfl, rfl, rfl, Below.refl _ _, by rw [List.take_zero]; exact WGoods.nil, fun _ => ⟨by rw [List.take_zero, wpl]; rfl, by simp⟩⟩
  case round =>
    obtain ⟨i, A, S, hile, hg, rfl, rfl, rfl, HBr, HGd, HAx⟩ := hrel; have HG : Hid (gk = ar.length - i) := hg; have HI : Hid (i ≤ ar.length) := hile; clear hg; obtain ⟨e0, e1, -⟩ := blk2 (below_keep HBr.out HQ1.out); have l1 := lt_of_block (below_keep HBr.out HQ1.out); obtain ⟨a0, a1, a2, -⟩ := blk3 (below_keep HBr.out HQ0.out); have l0 := lt_of_block (below_keep HBr.out HQ0.out); have HBw : Hid (Below w0.heap.size w0 wr) := below_join HB0.out (below_join HW.out HBr.out); by_cases hlt : i < ar.length
    · obtain ⟨⟨n2, ar2⟩, hki⟩ : ∃ x, ar[i]? = some x := ⟨_, List.getElem?_eq_getElem hlt⟩
      (have hltI : (i : Int) < (ar.length : Int) := by omega); obtain ⟨b, off, sl2, cap2, rfl, z0, z1, hrep2⟩ := HX.out.args.2.2.2.at i n2 ar2 hki; have y0 := (HBw.out.cell (lt_of_cell z0)).trans z0; have y1 := (HBw.out.cell (lt_of_cell z1)).trans z1; (have HCk : Hid (∀ W', Below w0.heap.size w0 W' → Calls Tryz.prog 36 _ W' (WvEnd s va (.mk n2 ar2) W')) := fun W' h => HIHk.out i n2 ar2 sl2 cap2 W' hki hrep2 h); have HTk : Hid (ar.take (i + 1) = ar.take i ++ [.mk n2 ar2]) := take_snocV hki; (have hlen : (ar.take i).length = i := by rw [List.length_take]; omega); have HLn : Hid ((ar.take i).length = i ∧ i < ar.length) := ⟨hlen, hlt⟩; clear hki z0 z1 hrep2 hlen hlt; have HY0 : Hid (wr.cell? ⟨b, off + i * 2, none⟩ = some (.string n2) ∧ wr.cell? ⟨b, off + i * 2 + 1, none⟩ = some (.slice sl2 ar2.length cap2)) := ⟨y0, y1⟩; go_wp2_with fail
      go_region_held3 (fun w' => w'.cell? ⟨w.heap.size, 0, none⟩ = some (.int .i64 (N : Nat)) ∧ w'.cell? ⟨w.heap.size, 1, none⟩ = some (.slice af s.funs.length cf) ∧ w'.cell? ⟨w.heap.size, 2, none⟩ = some (.slice ap s.preds.length cp) ∧ w'.cell? ⟨w.heap.size + 1, 1, none⟩ = some (.slice (some ⟨b, off, none⟩) ar.length cap) ∧ w'.cell? ⟨b, off + i * 2, none⟩ = some (.string n2) ∧ w'.cell? ⟨b, off + i * 2 + 1, none⟩ = some (.slice sl2 ar2.length cap2)) (go_keep)
        (first
         | (go_at_call 36
            (refine (HCk.out _ (by first | exact HBw.out.drew | exact HBw.out)).mono ?_); rintro e w4 ⟨r, rfl, hb4, hr4⟩; (have HB4 : Hid (Below W.heap.size W w4) := (by first | exact below_join HBr.out.drew hb4 | exact below_join HBr.out hb4)); have HR4 : Hid (0 ≤ r → WGood (vwOf s) va (.mk n2 ar2) ∧ r = ((wv (vwOf s) (vz va) (.mk n2 ar2) : Nat) : Int) ∧ r < s.n) := hr4; (have hb5 : Below wr.heap.size wr w4 := (by first | exact below_join (Below.refl _ wr).drew hb4 | exact hb4)); have x0 := (hb5.cell (lt_of_cell HY0.out.1)).trans HY0.out.1; have x1 := (hb5.cell (lt_of_cell HY0.out.2)).trans HY0.out.2; obtain ⟨k0, k1, -⟩ := blk2 (below_keep HB4.out HQ1.out); have kl1 := lt_of_block (below_keep HB4.out HQ1.out); obtain ⟨j0, j1, j2, -⟩ := blk3 (below_keep HB4.out HQ0.out); have kl0 := lt_of_block (below_keep HB4.out HQ0.out)
            clear hb4 hr4 hb5)
         | fail)
      clear x0 x1 y0 y1 e0 e1 l1 a0 a1 a2 l0; by_cases hr0 : r < 0
      · go_wp2_with fail
        go_ret; (exact ⟨-1, rfl, below_join HW.out HB4.out, fun h => absurd h (by decide)⟩)
      · obtain ⟨hg4, hrw, hrn⟩ := HR4.out (by omega)
        obtain ⟨rn, hrn2⟩ : ∃ rn : Nat, wv (vwOf s) (vz va) (.mk n2 ar2) = rn := ⟨_, rfl⟩; rw [hrn2] at hrw; subst hrw; (have hrN : rn < N := by have := HNv.out.1; omega); have HRn : Hid (wv (vwOf s) (vz va) (.mk n2 ar2) = rn ∧ rn < N ∧ WGood (vwOf s) va (.mk n2 ar2)) := ⟨hrn2, hrN, hg4⟩; (have hrI : (rn : Int) ≤ 8 := by omega); (have hrI0 : ¬ (rn : Int) < 0 := by omega); (have hrI1 : (0 : Int) ≤ (rn : Int) := by omega); clear hg4 hrn hrn2 hrN hr0 HR4; (have HNx : Hid (WGoods (vwOf s) va (ar.take (i + 1))) := by show WGoods _ _ _; rw [HTk.out]; exact HGd.out.snoc HRn.out.2.2); by_cases h3 : ar.length ≤ 3
        · obtain ⟨hA, hS⟩ := HAx.out h3
          have hgl := wpl_lt HVk.out.1 HVa.out (ar.take i) (wmns_of HVk.out.2 _ HGd.out.1); rw [HLn.out.1, HNv.out.2.2.1] at hgl; (have hp := pow_le64 (N := N) (i := i) HNv.out.2.2.2.2 (by have := HLn.out.2; omega)); obtain ⟨q, hq⟩ : ∃ q : Nat, N ^ i = q := ⟨_, rfl⟩; obtain ⟨a, ha⟩ : ∃ a : Nat, wpl (vwOf s) (vz va) (ar.take i) = a := ⟨_, rfl⟩; rw [hq] at hS hgl hp; rw [ha] at hA hgl; subst hA hS; have HQa : Hid (N ^ i = q ∧ wpl (vwOf s) (vz va) (ar.take i) = a) := ⟨hq, ha⟩; (have hm1 : rn * q ≤ 8 * 64 := Nat.mul_le_mul (by omega) hp); have hm2 : q * N ≤ 64 * 8 := Nat.mul_le_mul hp HNv.out.2.2.2.2; (have c1 : ((rn * q : Nat) : Int) = (rn : Int) * (q : Int) := by simp); (have c2 : ((q * N : Nat) : Int) = (q : Int) * (N : Int) := by simp); (have i1 : (rn : Int) * (q : Int) ≤ 512 := by rw [← c1]; omega); (have i2 : (0 : Int) ≤ (rn : Int) * (q : Int) := by rw [← c1]; omega); (have i3 : (q : Int) * (N : Int) ≤ 512 := by rw [← c2]; omega); (have i4 : (0 : Int) ≤ (q : Int) * (N : Int) := by rw [← c2]; omega); (have i5 : (a : Int) ≤ 64 := by omega); (have i6 : (0 : Int) ≤ (a : Int) := by omega); clear hgl hp hq ha hm1 hm2 c1 c2 HAx; go_wp2_with fail
          go_roundg (ar.length - (i + 1))
          case measure => have := HG.out; have := HLn.out.2; omega
          case rel => exact ⟨i + 1, (a : Int) + (rn : Int) * (q : Int), (q : Int) * (N : Int), HLn.out.2, rfl, by go_num, rfl, rfl, HB4, HNx, fun _ => ⟨by
            rw [HTk.out, wpl_snoc, HQa.out.2, HLn.out.1, HNv.out.2.2.1, HQa.out.1, HRn.out.1, Int.natCast_add, Int.natCast_mul, Int.mul_comm (q : Int)], by rw [Nat.pow_succ, HQa.out.1, Int.natCast_mul]⟩⟩
        · go_wp2_with fail
          go_roundg (ar.length - (i + 1))
          case measure => have := HG.out; have := HLn.out.2; omega
          case rel => exact ⟨i + 1, _, _, HLn.out.2, rfl, by go_num, rfl, rfl, HB4, HNx, fun h => absurd h h3⟩
    · have hge : ¬ (i : Int) < (ar.length : Int) := by omega
      (have hte : ar.take i = ar := List.take_of_length_le (by omega)); rw [hte] at HGd HAx; clear hte hlt hile; go_wp2_with fail; clear e0 e1 l1 a0 a1 a2 l0; obtain ⟨Wr2, hWr2⟩ : ∃ Wr2, Wr2 = wr := ⟨_, rfl⟩; rw [← hWr2] at HBr ⊢; clear hWr2 HBw
      go_loopg [14] s.funs.length (fun g c wr => ∃ k : Nat, k ≤ s.funs.length ∧ g = s.funs.length - k ∧ c = .int .i64 (k : Nat) ∧ Hid (Below W.heap.size W wr))
      case atStart => exact ⟨0, by omega, by omega, rfl, HBr⟩
      case round =>
        obtain ⟨k, hkl, hg3, rfl, HBk⟩ := hrel; have HG3 : Hid (gk = s.funs.length - k) := hg3; clear hg3; obtain ⟨e0, e1, -⟩ := blk2 (below_keep HBk.out HQ1.out); have l1 := lt_of_block (below_keep HBk.out HQ1.out); obtain ⟨a0, a1, a2, -⟩ := blk3 (below_keep HBk.out HQ0.out); have l0 := lt_of_block (below_keep HBk.out HQ0.out); have HBw : Hid (Below w0.heap.size w0 wr) := below_join HB0.out (below_join HW.out HBk.out); by_cases hlt : k < s.funs.length
        · obtain ⟨f, hfi⟩ : ∃ x, s.funs[k]? = some x := ⟨_, List.getElem?_eq_getElem hlt⟩
          (obtain ⟨g, off, rfl, hc⟩ := HF.out (fun e => by rw [e] at hlt; simp at hlt)); obtain ⟨tl, tc, z0, z1, z2, hfr⟩ := hc k f hfi; have y0 := (HBw.out.cell (lt_of_cell z0)).trans z0; have y1 := (HBw.out.cell (lt_of_cell z1)).trans z1; have y2 := (HBw.out.cell (lt_of_cell z2)).trans z2; (have hltI : (k : Int) < (s.funs.length : Int) := by omega); have HFi : Hid (f ∈ s.funs ∧ k < s.funs.length) := ⟨List.mem_of_getElem? hfi, hlt⟩; obtain ⟨tl', tc', e, -, hil⟩ := hfr; simp only [Value.agg.injEq, Array.mk.injEq, List.cons.injEq, Value.slice.injEq, and_true, true_and] at e; obtain ⟨rfl, rfl⟩ := e; have HIl : Hid (IL w0 (.slice tl f.tab.length tc) f.tab) := hil; clear hfi hc z0 z1 z2 hlt hkl hil; by_cases hfn : f.nm = n
          · have ht1 : (f.nm.toList == n.toList) = true := by rw [hfn]; simp
            by_cases hfa : f.ar = ((ar.length : Nat) : Int)
            · have ht2 : (f.ar == ((ar.length : Nat) : Int)) = true := by simpa using hfa
              obtain ⟨mm, hm3, hma, hmt, hmx⟩ := HFk.out f HFi.out.1; (have hml : mm = ar.length := by omega); subst hml; rw [HNv.out.2.1] at hmt hmx; obtain ⟨hA, -⟩ := HAx.out hm3; have hgl := wpl_lt HVk.out.1 HVa.out ar (wmns_of HVk.out.2 _ HGd.out.1); rw [HNv.out.2.2.1] at hgl; obtain ⟨a, ha⟩ : ∃ a : Nat, wpl (vwOf s) (vz va) ar = a := ⟨_, rfl⟩; rw [ha] at hA hgl; subst hA; (have hat : a < f.tab.length := by rw [hmt]; exact hgl); obtain ⟨y, hy⟩ : ∃ y, f.tab[a]? = some y := ⟨_, List.getElem?_eq_getElem hat⟩; obtain ⟨tl2, tc2, e2, t1, t2, t3⟩ := HIl.out; simp only [Value.slice.injEq, true_and] at e2; obtain ⟨rfl, rfl⟩ := e2; (obtain ⟨gt, ot, rfl, htc⟩ := t3 (fun e => by rw [e] at hat; simp at hat)); have z3 := htc a y hy; have y3 := (HBw.out.cell (lt_of_cell z3)).trans z3; (have hatI : (a : Int) < (f.tab.length : Int) := by omega); (have hatC : (a : Int) < (tc : Int) := by omega); (have ha0 : (0 : Int) ≤ (a : Int) := by omega)
              have HEn : Hid (WGood (vwOf s) va (.mk n ar) ∧ y = ((wv (vwOf s) (vz va) (.mk n ar) : Nat) : Int) ∧ y < (N : Int)) := by
                have hf1 := fn_once HSt.out HFi.out.1; rw [hfn] at hf1; obtain ⟨y1', y2'⟩ := hmx y (List.mem_of_getElem? hy); refine ⟨wgood_big HGd.out HNf.out hf1 (HVk.out.2 _ _ hf1) hfa, ?_, y2'⟩; rw [wv, hf1, ha]; show y = ((f.tab.getD a 0).toNat : Int); rw [List.getD_eq_getElem?_getD, hy]; show y = ((y.toNat : Nat) : Int); omega
              clear hfn hfa hm3 hma hmt hmx hgl ha hat hy t1 t2 t3 htc z3 HAx HF HFi; go_wp2_with fail
              go_quiet (fail)
              go_wp2_with fail; go_ret; (exact ⟨y, rfl, below_join HW.out (by first | exact HBk.out | exact below_drewN HBk.out _), fun _ => ⟨HEn.out.1, HEn.out.2.1, by rw [HNv.out.1]; exact HEn.out.2.2⟩⟩)
            · have ht2 : (f.ar == ((ar.length : Nat) : Int)) = false := by simpa using hfa
              clear hfn hfa; go_wp2_with fail
              go_quiet (fail)
              go_wp2_with fail
              go_roundg (s.funs.length - (k + 1))
              case measure => have := HG3.out; have := HFi.out.2; omega
              case rel => exact ⟨k + 1, HFi.out.2, rfl, by go_num, by first | exact HBk.out | exact below_drewN HBk.out _⟩
          · have ht1 : (f.nm.toList == n.toList) = false := by
              rw [ByteArray.toList_eq, ByteArray.toList_eq]; (have h2 : f.nm.data ≠ n.data := fun e => hfn (by rw [← str_eta f.nm, ← str_eta n, e])); simpa using h2
            clear hfn; go_wp2_with fail
            go_quiet (fail)
            go_wp2_with fail
            go_roundg (s.funs.length - (k + 1))
            case measure => have := HG3.out; have := HFi.out.2; omega
            case rel => exact ⟨k + 1, HFi.out.2, rfl, by go_num, by first | exact HBk.out | exact below_drewN HBk.out _⟩
        · have hge3 : ¬ (k : Int) < (s.funs.length : Int) := by omega
          go_wp2_with fail; go_ret; (exact ⟨-1, rfl, below_join HW.out HBk.out, fun h => absurd h (by decide)⟩)
theorem wval_all (s : StD) (names : List (List UInt8)) (vals : List Int) (hst : (stcode s).1 = 0) (hl : names.length = vals.length) (hz : ∀ p ∈ names.zip vals, isNm p.1 = true ∧ thingB s.n.toNat p.2 = true) (h20 : names.length ≤ 20) (w0 : World) (sv nv xv : Value) (hS : StR w0 s sv) (hN : SL w0 nv names) (hV : IL w0 xv vals) : ∀ m, WVS s names vals w0 sv nv xv m
  | 0 => fun _ _ _ h => absurd h (Nat.not_lt_zero _)
  | m + 1 => wval_step s names vals hst hl hz h20 w0 sv nv xv hS hN hV m (wval_all s names vals hst hl hz h20 w0 sv nv xv hS hN hV m)
end Go.Proofs.YtpiaeapgjljjhaaGreat
/- Two lists, each copied and one put behind, in a region that draws its order. -/
namespace Go.Proofs.YtpiaeapgjljjhaaGreat
open Go.RowKit Go.Sort

theorem infoIV : ∃ i, Tryz.prog.info? 3 = some i ∧ i.zero = some (.int .i64 0) ∧ i.size = 1 ∧ i.bytes = 8 := by
  (obtain ⟨i, hi, h⟩ := Option.map_eq_some_iff.1 (show (Tryz.prog.info? 3).map (fun i => (i.zero, i.size, i.bytes)) = some (some (.int .i64 0), 1, 8) by kernel_rfl)); simp only [Prod.mk.injEq] at h; exact ⟨i, hi, h.1, h.2.1, h.2.2⟩
theorem wp_appIv {o : Oper} {a : Act} {w : World} {K : Act → World → Prop} {Q : Exit → Act → World → Prop} (s x : Operand) (hop : o.op = Op.call { callee := Callee.builtin Builtin.append, args := #[s, x], argTypes := #[63, 63] })
    (B : Nat) (is js : List Int) (ad : Option Addr) (cp : Nat) (vx : Value) (hs : a.eval s = .slice ad is.length cp) (hown : w.ownsRow B 3 1 (.slice ad is.length cp) is.length (is.map encN)) (hx : a.eval x = vx) (hg : IL w vx js) (hB : B ≤ w.heap.size) (hl : is.length + js.length ≤ 10000000)
    (h : ∀ ad3 cp3 w3, w3.ownsRow B 3 1 (.slice ad3 (is ++ js).length cp3) (is ++ js).length ((is ++ js).map encN) → Kept (fun b => (Value.slice ad is.length cp).ownBlock ≠ some b) w w3 → (∀ b, (Value.slice ad3 (is ++ js).length cp3).ownBlock = some b → (Value.slice ad is.length cp).ownBlock = some b ∨ (w.heap.size ≤ b ∧ b < w3.heap.size)) → K (a.put o.dst (.slice ad3 (is ++ js).length cp3)) w3) : Oper.wp Tryz.prog o a w K Q := by
  obtain ⟨i0, hi, hz0, hz1, hz2⟩ := infoIV; by_cases hne : js = []
  · subst hne
    obtain ⟨x0, c, rfl, -⟩ := hg
    have hsrc : Src Tryz.prog i0.size 63 (.slice x0 0 c) 0 [] w := by
      cases x0 with
      | none => exact Src.ofNil w Tryz.underlying63 c
      | some ad => exact Src.ofSlice w Tryz.underlying63 ad 0 c [] (by simp) (fun j u h => by simp at h) (fun u h => by cases h)
    have hrun := run_append_nothing (P := Tryz.prog) w 63 63 o.type 3 i0 Tryz.underlying63 hi ad is.length cp (rowS_caps hown).1 (.slice x0 0 c) hsrc; have hx' : a.eval x = .slice x0 0 c := hx; (have h9 := h ad cp w (by rw [List.append_nil]; exact hown) (Kept.refl _ _) (fun b hb => Or.inl (by rw [List.append_nil] at hb; exact hb))); rw [List.append_nil] at h9; unfold Oper.wp; simp [execOp, hop, resolve, invoke, builtin, hs, hx', hrun, Result.andThen]; exact h9
  · obtain ⟨x0, c, rfl, -, -, hcs⟩ := hg
    obtain ⟨bs, offs, rfl, hc⟩ := hcs hne; have hpos : 0 < js.length := List.length_pos_iff.2 hne
    refine wp_append_lies w s x 63 hop B 3 i0 (.int .i64 0) 1 8 Tryz.underlying63 hi hz0 hz1 hz2 rfl (by decide) _ _ _ hs hown ⟨bs, offs, none⟩ js.length c (js.map encN) hx (by simp) (fun j u hu => by
      rw [add_none]; rw [List.getElem?_map] at hu; obtain ⟨y, hy, rfl⟩ := Option.map_eq_some_iff.1 hu
      exact hc j y hy) (fun u hu => by
        obtain ⟨y, -, rfl⟩ := List.mem_map.1 hu
        rfl) hpos (by unfold maxLen; omega) (by omega) hB _ rfl ?_
    intro g3 cp3 w3 hown3 hgrow hat hlt3; have e : is.length + js.length = (is ++ js).length := List.length_append.symm; rw [e, ← List.map_append] at hown3; rw [e]
    exact h _ _ w3 hown3 ⟨hgrow.os, hgrow.tape, hgrow.output, hgrow.size, fun b hb hn => hgrow.block b hb fun e => hn e.symm⟩ fun b hb => by
      (have eb : g3 = b := by simpa [Value.ownBlock] using hb); subst eb
      rcases hat with h1 | h1
      · exact Or.inl h1
      · exact Or.inr ⟨by omega, hlt3⟩
theorem step_appIv {ops : Array Oper} {o : Oper} {a : Act} {w : World} {K : Act → World → Prop} {Q : Exit → Act → World → Prop} {E : Prop} (hgd : o.guard = none) (s x : Operand) (hop : o.op = Op.call { callee := Callee.builtin Builtin.append, args := #[s, x], argTypes := #[63, 63] })
    (B : Nat) (is js : List Int) (ad : Option Addr) (cp : Nat) (vx : Value) (hs : a.eval s = .slice ad is.length cp) (hown : w.ownsRow B 3 1 (.slice ad is.length cp) is.length (is.map encN)) (hx : a.eval x = vx) (hg : IL w vx js) (hB : B ≤ w.heap.size) (hl : is.length + js.length ≤ 10000000)
    (h : ∀ ad3 cp3 w3, w3.ownsRow B 3 1 (.slice ad3 (is ++ js).length cp3) (is ++ js).length ((is ++ js).map encN) → Kept (fun b => (Value.slice ad is.length cp).ownBlock ≠ some b) w w3 → (∀ b, (Value.slice ad3 (is ++ js).length cp3).ownBlock = some b → (Value.slice ad is.length cp).ownBlock = some b ∨ (w.heap.size ≤ b ∧ b < w3.heap.size)) → K (a.put o.dst (.slice ad3 (is ++ js).length cp3)) w3) : if Region.wanted o (yielded ops a.tmps) = true then Oper.wp Tryz.prog o a w K Q else E := by
  (have hw : Region.wanted o (yielded ops a.tmps) = true := by simp [Region.wanted, hgd]); rw [if_pos hw]; exact wp_appIv s x hop B is js ad cp vx hs hown hx hg hB hl h
/-- Numbers in a row of one's own. -/
def KIv (B : Nat) (w : World) (ad : Option Addr) (cp : Nat) (l : List Int) : Prop := w.ownsRow B 3 1 (.slice ad l.length cp) l.length (l.map encN)
theorem KIv.nil {B : Nat} {w : World} : KIv B w none 0 [] := ⟨rfl, Or.inl ⟨rfl, rfl⟩⟩
theorem KIv.typ {B : Nat} {w : World} {ad : Option Addr} {cp : Nat} {l : List Int} (h : KIv B w ad cp l) {b : Nat} (e : (Value.slice ad l.length cp).ownBlock = some b) : ∃ cs, w.heap[b]? = some (.cells cs 3 (0, 0)) := by
  rcases h.2 with ⟨hv, -⟩ | ⟨g, cap, cur, hv, -, hg, -⟩
  · rw [hv] at e; cases e
  · rw [hv] at e
    (have e2 : g = b := by simpa [Value.ownBlock] using e); exact ⟨cur, e2 ▸ hg⟩
theorem IL.oneV {w : World} {b : Nat} {x : Int} {T : TypeId} (h : w.heap[b]? = some (.cells #[.int .i64 x] T (0, 0))) : IL w (.slice (some ⟨b, 0, none⟩) 1 1) [x] := by
  (refine ⟨_, 1, rfl, Nat.le_refl _, by simp [maxLen], fun _ => ⟨b, 0, rfl, fun j y hj => ?_⟩⟩); rw [Nat.zero_add, blk_cell h]
  match j, hj with
  | 0, hj => simp at hj; rw [← hj]; rfl
  | j + 1, hj => simp at hj
structure GPq where
  a1 : Option Addr
  c1 : Nat
  q1 : Nat
  a2 : Option Addr
  c2 : Nat
  b1 : Option Addr
  d1 : Nat
  q2 : Nat
  b2 : Option Addr
  d2 : Nat
  ob : Nat
def GPq.zero : GPq := ⟨none, 0, 0, none, 0, none, 0, 0, none, 0, 0⟩
/-- What is known while both lists are made. -/
structure StPq (W : World) (names : List (List UInt8)) (nm : List UInt8) (vals : List Int) (r f0 f1 : Int) (bz3 bz5 bz6 bz8 bz10 bz11 bz16 bz18 : Bool) (y : GPq) (w : World) : Prop where
  below : Below W.heap.size W w
  n1 : bz3 = true → bz6 = false → KS W.heap.size w y.a1 y.c1 names
  m1 : bz5 = true → bz6 = false → w.heap[y.q1]? = some (.cells #[.string ⟨nm.toArray⟩] 9 (0, 0)) ∧ W.heap.size ≤ y.q1
  n2 : bz6 = true → KS W.heap.size w y.a2 y.c2 (names ++ [nm])
  v1 : bz8 = true → bz11 = false → KIv W.heap.size w y.b1 y.d1 vals
  m2 : bz10 = true → bz11 = false → w.heap[y.q2]? = some (.cells #[.int .i64 r] 3 (0, 0)) ∧ W.heap.size ≤ y.q2
  v2 : bz11 = true → KIv W.heap.size w y.b2 y.d2 (vals ++ [r])
  ob : bz16 = true → w.heap[y.ob]? = some (.cells #[.int .i64 (if bz18 then f0 else 0), .int .i64 (if bz18 then f1 else 0)] 30 (0, 0)) ∧ W.heap.size ≤ y.ob
theorem StPq.up {W w w' : World} {names : List (List UInt8)} {nm : List UInt8} {vals : List Int} {r f0 f1 : Int} {bz3 bz5 bz6 bz8 bz10 bz11 bz16 bz18 : Bool} {y : GPq} (h : StPq W names nm vals r f0 f1 bz3 bz5 bz6 bz8 bz10 bz11 bz16 bz18 y w) (hb : Below w.heap.size w w') : StPq W names nm vals r f0 f1 bz3 bz5 bz6 bz8 bz10 bz11 bz16 bz18 y w' :=
  ⟨below_join h.below hb, fun e1 e2 => (h.n1 e1 e2).up hb, fun e1 e2 => ⟨below_keep hb (h.m1 e1 e2).1, (h.m1 e1 e2).2⟩, fun e => (h.n2 e).up hb, fun e1 e2 => owns_up (h.v1 e1 e2) hb, fun e1 e2 => ⟨below_keep hb (h.m2 e1 e2).1, (h.m2 e1 e2).2⟩, fun e => owns_up (h.v2 e) hb, fun e => ⟨below_keep hb (h.ob e).1, (h.ob e).2⟩⟩
/-- A copy of the names is made. -/
theorem StPq.s3 {W w w' : World} {names : List (List UInt8)} {nm : List UInt8} {vals : List Int} {r f0 f1 : Int} {bz3 bz5 bz6 bz8 bz10 bz11 bz16 bz18 : Bool} {y : GPq} (h : StPq W names nm vals r f0 f1 bz3 bz5 bz6 bz8 bz10 bz11 bz16 bz18 y w) (hb : Below w.heap.size w w') {ad : Option Addr} {cp : Nat} (hk : KS W.heap.size w' ad cp names) : StPq W names nm vals r f0 f1 true bz5 bz6 bz8 bz10 bz11 bz16 bz18 { y with a1 := ad, c1 := cp } w' :=
  have g := h.up hb
  ⟨g.below, fun _ _ => hk, g.m1, g.n2, g.v1, g.m2, g.v2, g.ob⟩
theorem StPq.s5 {W w w' : World} {names : List (List UInt8)} {nm : List UInt8} {vals : List Int} {r f0 f1 : Int} {bz3 bz5 bz6 bz8 bz10 bz11 bz16 bz18 : Bool} {y : GPq} (h : StPq W names nm vals r f0 f1 bz3 bz5 bz6 bz8 bz10 bz11 bz16 bz18 y w) (hb : Below w.heap.size w w') {q : Nat} (hk : w'.heap[q]? = some (.cells #[.string ⟨nm.toArray⟩] 9 (0, 0))) (hq : W.heap.size ≤ q) : StPq W names nm vals r f0 f1 bz3 true bz6 bz8 bz10 bz11 bz16 bz18 { y with q1 := q } w' :=
  have g := h.up hb
  ⟨g.below, g.n1, fun _ _ => ⟨hk, hq⟩, g.n2, g.v1, g.m2, g.v2, g.ob⟩
/-- A name is put behind. -/
theorem StPq.s6 {W w w' : World} {names : List (List UInt8)} {nm : List UInt8} {vals : List Int} {r f0 f1 : Int} {bz3 bz5 bz6 bz8 bz10 bz11 bz16 bz18 : Bool} {y : GPq} (h : StPq W names nm vals r f0 f1 bz3 bz5 bz6 bz8 bz10 bz11 bz16 bz18 y w) (e6 : bz6 = false) (e3 : bz3 = true) (hk : Kept (fun b => (Value.slice y.a1 names.length y.c1).ownBlock ≠ some b) w w') {ad : Option Addr} {cp : Nat} (hn : KS W.heap.size w' ad cp (names ++ [nm])) : StPq W names nm vals r f0 f1 bz3 bz5 true bz8 bz10 bz11 bz16 bz18 { y with a2 := ad, c2 := cp } w' := by
  have hr := h.n1 e3 e6
  have off : ∀ {b : Nat} {o : Obj}, w.heap[b]? = some o → (∀ cs, o ≠ .cells cs 9 (0, 0)) → w'.heap[b]? = some o := fun {b o} e hne => (hk.block b (lt_of_block e) fun e2 => by
    obtain ⟨cs, e3⟩ := hr.typ e2; rw [e] at e3
    exact hne cs (Option.some.inj e3)).trans e
  have mv : ∀ {A : Option Addr} {c : Nat} {l : List Int}, KIv W.heap.size w A c l → KIv W.heap.size w' A c l := fun {A c l} hv => owns_move hv fun b e => by
    obtain ⟨cs, e3⟩ := hv.typ e; (rw [off e3 (fun cs2 e4 => by simp at e4), e3])
  (exact ⟨h.below.trans (hk.below h.below.size fun b hb e => by have := (World.ownsRow.lt hr b e).1; omega), (fun _ e => by cases e), (fun _ e => by cases e), fun _ => hn, fun a b => mv (h.v1 a b), fun a b => ⟨off (h.m2 a b).1 (fun cs e => by simp at e), (h.m2 a b).2⟩, fun a => mv (h.v2 a), fun a => ⟨off (h.ob a).1 (fun cs e => by simp at e), (h.ob a).2⟩⟩)
theorem StPq.s8 {W w w' : World} {names : List (List UInt8)} {nm : List UInt8} {vals : List Int} {r f0 f1 : Int} {bz3 bz5 bz6 bz8 bz10 bz11 bz16 bz18 : Bool} {y : GPq} (h : StPq W names nm vals r f0 f1 bz3 bz5 bz6 bz8 bz10 bz11 bz16 bz18 y w) (hb : Below w.heap.size w w') {ad : Option Addr} {cp : Nat} (hk : KIv W.heap.size w' ad cp vals) : StPq W names nm vals r f0 f1 bz3 bz5 bz6 true bz10 bz11 bz16 bz18 { y with b1 := ad, d1 := cp } w' :=
  have g := h.up hb
  ⟨g.below, g.n1, g.m1, g.n2, fun _ _ => hk, g.m2, g.v2, g.ob⟩
theorem StPq.s10 {W w w' : World} {names : List (List UInt8)} {nm : List UInt8} {vals : List Int} {r f0 f1 : Int} {bz3 bz5 bz6 bz8 bz10 bz11 bz16 bz18 : Bool} {y : GPq} (h : StPq W names nm vals r f0 f1 bz3 bz5 bz6 bz8 bz10 bz11 bz16 bz18 y w) (hb : Below w.heap.size w w') {q : Nat} (hk : w'.heap[q]? = some (.cells #[.int .i64 r] 3 (0, 0))) (hq : W.heap.size ≤ q) : StPq W names nm vals r f0 f1 bz3 bz5 bz6 bz8 true bz11 bz16 bz18 { y with q2 := q } w' :=
  have g := h.up hb
  ⟨g.below, g.n1, g.m1, g.n2, g.v1, fun _ _ => ⟨hk, hq⟩, g.v2, g.ob⟩
theorem StPq.s11 {W w w' : World} {names : List (List UInt8)} {nm : List UInt8} {vals : List Int} {r f0 f1 : Int} {bz3 bz5 bz6 bz8 bz10 bz11 bz16 bz18 : Bool} {y : GPq} (h : StPq W names nm vals r f0 f1 bz3 bz5 bz6 bz8 bz10 bz11 bz16 bz18 y w) (e11 : bz11 = false) (e8 : bz8 = true) (hk : Kept (fun b => (Value.slice y.b1 vals.length y.d1).ownBlock ≠ some b) w w') {ad : Option Addr} {cp : Nat} (hn : KIv W.heap.size w' ad cp (vals ++ [r])) : StPq W names nm vals r f0 f1 bz3 bz5 bz6 bz8 bz10 true bz16 bz18 { y with b2 := ad, d2 := cp } w' := by
  have hr := h.v1 e8 e11
  have off : ∀ {b : Nat} {o : Obj}, w.heap[b]? = some o → (∀ cs, o ≠ .cells cs 3 (0, 0)) → w'.heap[b]? = some o := fun {b o} e hne => (hk.block b (lt_of_block e) fun e2 => by
    obtain ⟨cs, e3⟩ := hr.typ e2; rw [e] at e3
    exact hne cs (Option.some.inj e3)).trans e
  have mv : ∀ {A : Option Addr} {c : Nat} {l : List (List UInt8)}, KS W.heap.size w A c l → KS W.heap.size w' A c l := fun {A c l} hv => owns_move hv fun b e => by
    obtain ⟨cs, e3⟩ := hv.typ e; (rw [off e3 (fun cs2 e4 => by simp at e4), e3])
  (exact ⟨h.below.trans (hk.below h.below.size fun b hb e => by have := (World.ownsRow.lt hr b e).1; omega), fun a b => mv (h.n1 a b), fun a b => ⟨off (h.m1 a b).1 (fun cs e => by simp at e), (h.m1 a b).2⟩, fun a => mv (h.n2 a), (fun _ e => by cases e), (fun _ e => by cases e), fun _ => hn, fun a => ⟨off (h.ob a).1 (fun cs e => by simp at e), (h.ob a).2⟩⟩)
theorem StPq.s16 {W w w' : World} {names : List (List UInt8)} {nm : List UInt8} {vals : List Int} {r f0 f1 : Int} {bz3 bz5 bz6 bz8 bz10 bz11 bz16 bz18 : Bool} {y : GPq} (h : StPq W names nm vals r f0 f1 bz3 bz5 bz6 bz8 bz10 bz11 bz16 bz18 y w) (e18 : bz18 = false) (hb : Below w.heap.size w w') {q : Nat} (hk : w'.heap[q]? = some (.cells #[.int .i64 0, .int .i64 0] 30 (0, 0))) (hq : W.heap.size ≤ q) : StPq W names nm vals r f0 f1 bz3 bz5 bz6 bz8 bz10 bz11 true bz18 { y with ob := q } w' :=
  have g := h.up hb
  ⟨g.below, g.n1, g.m1, g.n2, g.v1, g.m2, g.v2, fun _ => ⟨by rw [e18]; exact hk, hq⟩⟩
theorem StPq.s18 {W w : World} {names : List (List UInt8)} {nm : List UInt8} {vals : List Int} {r f0 f1 : Int} {bz3 bz5 bz6 bz8 bz10 bz11 bz16 bz18 : Bool} {y : GPq} (h : StPq W names nm vals r f0 f1 bz3 bz5 bz6 bz8 bz10 bz11 bz16 bz18 y w) (e6 : bz6 = true) (e11 : bz11 = true) (e16 : bz16 = true) : StPq W names nm vals r f0 f1 bz3 bz5 bz6 bz8 bz10 bz11 bz16 true y ((w.setCell ⟨y.ob, 0, none⟩ (.int .i64 f0)).setCell ⟨y.ob, 1, none⟩ (.int .i64 f1)) := by
  obtain ⟨ho, hq⟩ := h.ob e16; (have far : ∀ b, b ≠ y.ob → ((w.setCell ⟨y.ob, 0, none⟩ (.int .i64 f0)).setCell ⟨y.ob, 1, none⟩ (.int .i64 f1)).heap[b]? = w.heap[b]? := fun b hb => by rw [blk_otherS _ hb, blk_otherS _ hb]); (refine ⟨(h.below.setCell hq _).setCell hq _, (fun _ e => by rw [e6] at e; cases e), (fun _ e => by rw [e6] at e; cases e), fun a => owns_move (h.n2 a) fun b e => far b fun e2 => ?_, (fun _ e => by rw [e11] at e; cases e), (fun _ e => by rw [e11] at e; cases e), fun a => owns_move (h.v2 a) fun b e => far b fun e2 => ?_, fun _ => ⟨?_, hq⟩⟩)
  · obtain ⟨cs, e3⟩ := (h.n2 e6).typ e
    rw [e2, ho] at e3; simp at e3
  · obtain ⟨cs, e3⟩ := (h.v2 e11).typ e
    rw [e2, ho] at e3; simp at e3
  · rw [blk_setS (blk_setS ho _) _]
    rfl
end Go.Proofs.YtpiaeapgjljjhaaGreat
/- The law MeaningPuts: what its calls say of each other. -/
namespace Go.Proofs.YtpiaeapgjljjhaaGreat
open Go.RowKit Go.Sort

set_option maxRecDepth 10000 in
set_option maxHeartbeats 2000000 in
theorem vastWord_any (x : Wd) (v : Value) (w : World) (h : WRp w x v) : Calls Tryz.prog 21 #[v] w fun e w' => AnyB e ∧ Below w.heap.size w w' := by
  obtain ⟨n, ar⟩ := x; have HX : Hid (WRp w (.mk n ar) v) := h; obtain ⟨sl, cap, rfl, -⟩ := WRp.def.1 h; (have HV : Hid (∀ W q, Below w.heap.size w W → W.heap[q]? = some (.cells #[.string n, .slice sl ar.length cap] 44 (0, 0)) → Calls Tryz.prog 44 #[.slice (some ⟨q, 0, none⟩) 1 1, .int .i64 0] W fun e w' => AnyB e ∧ w' = W) := fun W q hb hq => vastW_all _ [.mk n ar] _ 0 W (Nat.lt_succ_self _) (by omega) (WL.one HX.out hb hq)); clear h
  go_enter Tryz.func21, Tryz.ntmps21
  go_wp2_with (first
    | (go_at_call 44
       refine (HV.out _ _ (below_more (below_more (Below.refl _ w) _) _) (blk_secE _ _ _)).mono ?_; rintro e w2 ⟨hA, h2⟩; obtain ⟨bb, rfl⟩ := hA.get; (have HB2 : Hid (Below w.heap.size w w2) := by show Below _ _ _; rw [h2]; exact below_more (below_more (Below.refl _ w) _) _)
       clear h2 hA)
    | fail)
  go_ret; exact ⟨⟨bb, rfl⟩, HB2.out⟩
theorem vfAt_zero {n : Nat} : ∀ (l : List (List UInt8 × Int)) (i : Nat), (∀ p ∈ l, isNm p.1 = true ∧ thingB n p.2 = true) → vfAt n i l = (0, 0)
  | [], _, _ => by rw [vfAt]
  | p :: l, i, h => by
    obtain ⟨h1, h2⟩ := h p (List.mem_cons_self ..); (rw [vfAt, if_neg (by rw [h1]; decide), if_neg (by rw [h2]; decide)]); (exact vfAt_zero l _ fun q hq => h q (List.mem_cons_of_mem _ hq))
theorem vf_zero {n : Nat} {names : List (List UInt8)} {vals : List Int} (hl : names.length = vals.length) (h20 : names.length ≤ 20) (h : ∀ p ∈ names.zip vals, isNm p.1 = true ∧ thingB n p.2 = true) : (vfcode n names vals).1 = 0 := by
  unfold vfcode; rw [if_pos ⟨hl, h20⟩, vfAt_zero _ _ h]
/-- Put's code zero: all that was asked. -/
theorem putC_zero {x : Ex} {nm : ByteArray} {y : Wd} {z : Ex} (h : (putC x nm y z).1 = 0) : (ecode x).1 = 0 ∧ isNm nm.data.toList = true ∧ (pwcode y).1 = 0 ∧ (ecode z).1 = 0 := by
  unfold putC at h; (obtain ⟨h1, h⟩ := code_if h fun e => e); (obtain ⟨h2, h⟩ := code_if h fun _ => by decide); (obtain ⟨h3, h⟩ := code_if h fun e => e); (obtain ⟨-, h⟩ := code_if h fun _ => by decide); (obtain ⟨h5, -⟩ := code_if h fun _ => by decide); (exact ⟨by simpa using h1, by simpa using h2, by simpa using h3, by simpa using h5⟩)
theorem puts_abs (s : StD) (x : Ex) (nm : ByteArray) (y : Wd) (t0 : BT) (names : List (List UInt8)) (vals : List Int) (r : Int) (h0 : t0.1 = nm) (hg : gY y t0 = y) (hpc : (putC x nm y (putX nm y t0 x)).1 = 0) (hl : names.length = vals.length) (h19 : names.length ≤ 19) (hz : ∀ p ∈ names.zip vals, isNm p.1 = true ∧ thingB s.n.toNat p.2 = true)
    (hw : WGood (vwOf s) (vaAt (names.zip vals)) y) (hr : r = ((wv (vwOf s) (vz (vaAt (names.zip vals))) y : Nat) : Int)) (hlen : ∀ t ∈ names, t.length ≤ maxLen) :
    ∃ (c1 d1 : Int) (B1 : Bool) (c2 d2 : Int) (B2 : Bool), (∀ v u nv xv W, StR W s v → ERp W (putX nm y t0 x) u → SL W nv names → IL W xv vals → Calls Tryz.prog 37 #[v, u, nv, xv] W fun e w' => e = .returned (.tuple #[.bool B1, .agg #[.int .i64 c1, .int .i64 d1]]) ∧ Below W.heap.size W w') ∧
      (∀ v u nv xv W, StR W s v → ERp W x u → SL W nv (names ++ [nm.data.toList]) → IL W xv (vals ++ [r]) → Calls Tryz.prog 37 #[v, u, nv, xv] W fun e w' => e = .returned (.tuple #[.bool B2, .agg #[.int .i64 c2, .int .i64 d2]]) ∧ Below W.heap.size W w') ∧
      (c2 = 0 → c1 = 0 ∧ B1 = B2) := by
  obtain ⟨-, hnm, hpw, hez⟩ := putC_zero hpc; obtain ⟨-, hys, -, s1, p1, f1, hwc⟩ := pwcode_ok hpw; (have hnl : nm.data.toList.length ≤ maxLen := by have := (isNm_bd hnm).2; unfold maxLen; omega); (refine ⟨_, _, _, _, _, _, fun v u nv xv W g1 g2 g3 g4 => valueS_any s (putX nm y t0 x) names vals v u nv xv W g1 g2 g3 g4 hlen, fun v u nv xv W g1 g2 g3 g4 => valueS_any s x (names ++ [nm.data.toList]) (vals ++ [r]) v u nv xv W g1 g2 g3 g4 (fun t ht => ?_), fun hc => ?_⟩)
  · rcases List.mem_append.1 ht with h | h
    · exact hlen t h
    · rw [List.mem_singleton.1 h]; exact hnl
  · obtain ⟨k1, k2⟩ := put_value h0 hg hnm (wchk_names y _ _ _ _ _ _ hwc) hez hw.1 hw.2 hr (vf_zero hl (by omega) hz) hc
    (exact ⟨by rw [k1], k2⟩)
end Go.Proofs.YtpiaeapgjljjhaaGreat
/- The law MeaningPuts, walked (made by gen/mq6.py). -/
namespace Go.Proofs.YtpiaeapgjljjhaaGreat
open Go.RowKit Go.Sort

theorem rowQ2 (l : List Value) (h0 : l.length = 2) : ∃ x0 x1, l = [x0, x1] := by
  obtain ⟨x0, l1, e0, h1⟩ := cons_lenM h0; obtain ⟨x1, l2, e1, h2⟩ := cons_lenM h1; have e2 : l2 = [] := List.length_eq_zero_iff.1 h2; subst e2 e1 e0; exact ⟨x0, x1, rfl⟩
theorem rowQ16 (l : List Value) (h0 : l.length = 16) : ∃ x0 x1 x2 x3 x4 x5 x6 x7 x8 x9 x10 x11 x12 x13 x14 x15, l = [x0, x1, x2, x3, x4, x5, x6, x7, x8, x9, x10, x11, x12, x13, x14, x15] := by
  obtain ⟨x0, l1, e0, h1⟩ := cons_lenM h0; obtain ⟨x1, l2, e1, h2⟩ := cons_lenM h1; obtain ⟨x2, l3, e2, h3⟩ := cons_lenM h2; obtain ⟨x3, l4, e3, h4⟩ := cons_lenM h3; obtain ⟨x4, l5, e4, h5⟩ := cons_lenM h4; obtain ⟨x5, l6, e5, h6⟩ := cons_lenM h5; obtain ⟨x6, l7, e6, h7⟩ := cons_lenM h6; obtain ⟨x7, l8, e7, h8⟩ := cons_lenM h7; obtain ⟨x8, l9, e8, h9⟩ := cons_lenM h8; obtain ⟨x9, l10, e9, h10⟩ := cons_lenM h9; obtain ⟨x10, l11, e10, h11⟩ := cons_lenM h10; obtain ⟨x11, l12, e11, h12⟩ := cons_lenM h11; obtain ⟨x12, l13, e12, h13⟩ := cons_lenM h12; obtain ⟨x13, l14, e13, h14⟩ := cons_lenM h13; obtain ⟨x14, l15, e14, h15⟩ := cons_lenM h14; obtain ⟨x15, l16, e15, h16⟩ := cons_lenM h15; have e16 : l16 = [] := List.length_eq_zero_iff.1 h16; subst e16 e15 e14 e13 e12 e11 e10 e9 e8 e7 e6 e5 e4 e3 e2 e1 e0; exact ⟨x0, x1, x2, x3, x4, x5, x6, x7, x8, x9, x10, x11, x12, x13, x14, x15, rfl⟩
def Bx3 (w W : World) (o0 o1 o2 : Obj) : Prop := Below w.heap.size w W ∧ W.heap[w.heap.size]? = some o0 ∧ W.heap[w.heap.size + 1]? = some o1 ∧ W.heap[w.heap.size + 1 + 1]? = some o2
theorem Bx3.up {w W W' : World} {o0 o1 o2 : Obj} (h : Bx3 w W o0 o1 o2) (hb : Below W.heap.size W W') : Bx3 w W' o0 o1 o2 := ⟨below_join h.1 hb, below_keep hb h.2.1, below_keep hb h.2.2.1, below_keep hb h.2.2.2⟩
theorem Bx3.start (w : World) (o0 o1 o2 : Obj) : Bx3 w (((w.alloc o0).alloc o1).alloc o2) o0 o1 o2 := by
  (have e1 : (w.alloc o0).heap.size = w.heap.size + 1 := by simp); (have e2 : ((w.alloc o0).alloc o1).heap.size = w.heap.size + 1 + 1 := by simp); refine ⟨below_more (below_more (below_more (Below.refl _ w) _) _) _, alloc_keep (alloc_keep (blk_new w _) _) _, ?_, ?_⟩
  · have := alloc_keep (blk_new (w.alloc o0) o1) o2
    rwa [e1] at this
  · have := blk_new ((w.alloc o0).alloc o1) o2
    rwa [e2] at this
set_option maxRecDepth 100000 in
set_option maxHeartbeats 32000000 in
theorem puts_lawM (s : StD) (x : Ex) (nm : ByteArray) (y : Wd) (names : List (List UInt8)) (vals : List Int) (v u yv nv xv : Value) (w : World) (hS : StR w s v) (hE : ERp w x u) (hn : nm.size ≤ maxLen) (hY : WRp w y yv) (hN : SL w nv names) (hlen : ∀ t ∈ names, t.length ≤ maxLen) (hV : IL w xv vals) :
    Calls Tryz.prog 6 #[v, u, .string nm, yv, nv, xv] w fun e w' => e = .returned (.bool true) ∧ Below w.heap.size w w' := by
  have HRs : Hid (StR w s v) := hS; have HRe : Hid (ERp w x u) := hE; have HRy : Hid (WRp w y yv) := hY; have HRm : Hid (SL w nv names) := hN; have HRv : Hid (IL w xv vals) := hV; have HLn : Hid (∀ t ∈ names, t.length ≤ maxLen) := hlen; have HNs : Hid (nm.size ≤ maxLen) := hn; (have HVe : Hid (∀ v W, ERp W x v → Calls Tryz.prog 9 #[v, .int .i64 0] W _) := fun v W h => vastExpr_any x v W h); (have HVw : Hid (∀ v W, WRp W y v → Calls Tryz.prog 21 #[v] W _) := fun v W h => vastWord_any y v W h); (have HSf : Hid (∀ v W, StR W s v → Calls Tryz.prog 35 #[v] W _) := fun v W h => sfault_any s v W h); (have HNa : Hid (∀ W, Calls Tryz.prog 24 #[.string nm] W _) := fun W => refName_any nm hn W); (have HPu : Hid (∀ v u W, ERp W x v → WRp W y u → Calls Tryz.prog 22 #[v, .string nm, u] W _) := fun v u W h1 h2 => eput_any x v nm y u W h1 h2 hn); obtain ⟨af, cf, ap, cp, rfl, -⟩ := hS; obtain ⟨kd, en, ws, ks⟩ := x; obtain ⟨sw, cw, sk, ck, rfl, -⟩ := ERp.def.1 hE
  have hgs : ∃ yn sy yl cy, yv = .agg #[.string yn, .slice sy yl cy] := by
    obtain ⟨n, ar⟩ := y; obtain ⟨sl, cap, e, -⟩ := WRp.def.1 hY; exact ⟨n, _, _, _, e⟩
  obtain ⟨yn, sy, yl, cy, rfl⟩ := hgs; obtain ⟨an, cn, rfl, m1, m2, m3⟩ := hN; obtain ⟨av, cv, rfl, v1, v2, v3⟩ := hV; have HNm : Hid (names ≠ [] → ∃ g off, an = some ⟨g, off, none⟩ ∧ ∀ (j : Nat) (t : List UInt8), names[j]? = some t → w.cell? ⟨g, off + j, none⟩ = some (.string ⟨t.toArray⟩)) := m3; have HVl : Hid (vals ≠ [] → ∃ g off, av = some ⟨g, off, none⟩ ∧ ∀ (j : Nat) (x : Int), vals[j]? = some x → w.cell? ⟨g, off + j, none⟩ = some (.int .i64 x)) := v3; (have hcn : ((names.length : Nat) : Int) ≤ (cn : Int) := by omega); (have hcv : ((vals.length : Nat) : Int) ≤ (cv : Int) := by omega); (have hnI : ((names.length : Nat) : Int) ≤ 9223372036854775807 := by unfold maxLen at m2; omega); (have hvI : ((vals.length : Nat) : Int) ≤ 9223372036854775807 := by unfold maxLen at v2; omega); have HX0 : Hid (Bx3 w (((w.alloc (.cells #[.int .i64 s.n, .slice af s.funs.length cf, .slice ap s.preds.length cp] 62 (0, 0))).alloc (.cells #[.int .i64 kd, .string en, .slice sw ws.length cw, .slice sk ks.length ck] 25 (0, 0))).alloc (.cells #[.string yn, .slice sy yl cy] 44 (0, 0))) (.cells #[.int .i64 s.n, .slice af s.funs.length cf, .slice ap s.preds.length cp] 62 (0, 0)) (.cells #[.int .i64 kd, .string en, .slice sw ws.length cw, .slice sk ks.length ck] 25 (0, 0)) (.cells #[.string yn, .slice sy yl cy] 44 (0, 0))) := Bx3.start w _ _ _; (have hfc := fun a b w => fault_code a b w); clear hE hY hn hlen m1 m2 m3 v1 v2 v3
  go_enter Tryz.func6, Tryz.ntmps6
  go_wp2_with fail; refine (meaningBegun_any _).mono ?_; rintro _ w1 ⟨rfl, hb1⟩; have HX1 : Hid (Bx3 w w1 (.cells #[.int .i64 s.n, .slice af s.funs.length cf, .slice ap s.preds.length cp] 62 (0, 0)) (.cells #[.int .i64 kd, .string en, .slice sw ws.length cw, .slice sk ks.length ck] 25 (0, 0)) (.cells #[.string yn, .slice sy yl cy] 44 (0, 0))) := HX0.out.up hb1; clear hb1 HX0; obtain ⟨a0, a1, a2, -⟩ := blk3 HX1.out.2.1; have la := lt_of_block HX1.out.2.1; obtain ⟨k0, k1, k2, k3⟩ := blk4L HX1.out.2.2.1; have lk := lt_of_block HX1.out.2.2.1; obtain ⟨y0, y1, -⟩ := blk2 HX1.out.2.2.2; have ly := lt_of_block HX1.out.2.2.2; go_wp2_with fail; refine (HVe.out _ _ (ERp.up HX1.out.1 _ _ HRe.out)).mono ?_; rintro _ w2 ⟨hA, hb2⟩; obtain ⟨bb, rfl⟩ := hA.get; have HX2 : Hid (Bx3 w w2 (.cells #[.int .i64 s.n, .slice af s.funs.length cf, .slice ap s.preds.length cp] 62 (0, 0)) (.cells #[.int .i64 kd, .string en, .slice sw ws.length cw, .slice sk ks.length ck] 25 (0, 0)) (.cells #[.string yn, .slice sy yl cy] 44 (0, 0))) := HX1.out.up hb2; clear hb2 hA HVe HX1; clear a0 a1 a2 la k0 k1 k2 k3 lk y0 y1 ly; obtain ⟨a0, a1, a2, -⟩ := blk3 HX2.out.2.1; have la := lt_of_block HX2.out.2.1; obtain ⟨k0, k1, k2, k3⟩ := blk4L HX2.out.2.2.1; have lk := lt_of_block HX2.out.2.2.1; obtain ⟨y0, y1, -⟩ := blk2 HX2.out.2.2.2; have ly := lt_of_block HX2.out.2.2.2
  cases bb
  case true =>
    go_wp2_with fail; go_ret; exact ⟨rfl, HX2.out.1⟩
  go_wp2_with fail; refine (HVw.out _ _ (HRy.out.up HX2.out.1)).mono ?_; rintro _ w3 ⟨hA, hb3⟩; obtain ⟨bb, rfl⟩ := hA.get; have HX3 : Hid (Bx3 w w3 (.cells #[.int .i64 s.n, .slice af s.funs.length cf, .slice ap s.preds.length cp] 62 (0, 0)) (.cells #[.int .i64 kd, .string en, .slice sw ws.length cw, .slice sk ks.length ck] 25 (0, 0)) (.cells #[.string yn, .slice sy yl cy] 44 (0, 0))) := HX2.out.up hb3; clear hb3 hA HVw HX2; clear a0 a1 a2 la k0 k1 k2 k3 lk y0 y1 ly; obtain ⟨a0, a1, a2, -⟩ := blk3 HX3.out.2.1; have la := lt_of_block HX3.out.2.1; obtain ⟨k0, k1, k2, k3⟩ := blk4L HX3.out.2.2.1; have lk := lt_of_block HX3.out.2.2.1; obtain ⟨y0, y1, -⟩ := blk2 HX3.out.2.2.2; have ly := lt_of_block HX3.out.2.2.2
  cases bb
  case true =>
    go_wp2_with fail; go_ret; exact ⟨rfl, HX3.out.1⟩
  by_cases h19 : 19 < names.length
  case pos =>
    (have h19I : (19 : Int) < ((names.length : Nat) : Int) := by omega); go_wp2_with fail; go_ret; exact ⟨rfl, HX3.out.1⟩
  (have h19I : ¬ (19 : Int) < ((names.length : Nat) : Int) := by omega); by_cases hl : names.length = vals.length
  case neg =>
    (have hlB : (((names.length : Nat) : Int) != ((vals.length : Nat) : Int)) = true := by rw [bne_iff_ne]; omega); go_wp2_with fail; go_ret; exact ⟨rfl, HX3.out.1⟩
  (have hlB : (((names.length : Nat) : Int) != ((vals.length : Nat) : Int)) = false := by rw [bne_eq_false_iff_eq]; omega); (have HLs : Hid (names.length = vals.length ∧ names.length ≤ 19) := ⟨hl, by omega⟩); clear h19 hl; go_wp2_with fail; refine (HNa.out _).mono ?_; rintro _ w4 ⟨rfl, h4⟩; obtain rfl : w3 = w4 := h4.symm; clear h4 HNa
  rcases hnm : isNm nm.data.toList with _ | _
  case false =>
    go_wp2_with fail; go_ret; exact ⟨rfl, HX3.out.1⟩
  have HNn : Hid (isNm nm.data.toList = true) := hnm; go_wp2_with fail; refine (HSf.out _ _ (HRs.out.up HX3.out.1)).mono ?_; rintro _ w4 ⟨rfl, hb4⟩; have HX4 : Hid (Bx3 w w4 (.cells #[.int .i64 s.n, .slice af s.funs.length cf, .slice ap s.preds.length cp] 62 (0, 0)) (.cells #[.int .i64 kd, .string en, .slice sw ws.length cw, .slice sk ks.length ck] 25 (0, 0)) (.cells #[.string yn, .slice sy yl cy] 44 (0, 0))) := HX3.out.up hb4; clear hb4 HSf HX3 hnm; clear a0 a1 a2 la k0 k1 k2 k3 lk y0 y1 ly; obtain ⟨a0, a1, a2, -⟩ := blk3 HX4.out.2.1; have la := lt_of_block HX4.out.2.1; obtain ⟨k0, k1, k2, k3⟩ := blk4L HX4.out.2.2.1; have lk := lt_of_block HX4.out.2.2.1; obtain ⟨y0, y1, -⟩ := blk2 HX4.out.2.2.2; have ly := lt_of_block HX4.out.2.2.2
  rcases hst : stcode s with ⟨c9, a9⟩
  by_cases hc9 : c9 ≠ 0
  case pos =>
    (have hc9B : (c9 != 0) = true := by simpa using hc9); go_wp2_with fail; go_ret; exact ⟨rfl, HX4.out.1⟩
  (obtain rfl : c9 = 0 := by simpa using hc9); (have HSt : Hid ((stcode s).1 = 0) := by show _ = _; rw [hst]); clear hst hc9; go_wp2_with fail; clear a0 a1 a2 la k0 k1 k2 k3 lk y0 y1 ly
  go_loopg [13] names.length (fun g c wr => ∃ i : Nat, i ≤ names.length ∧ g = names.length - i ∧ c = .int .i64 (i : Nat) ∧ Hid (∀ p ∈ (names.zip vals).take i, isNm p.1 = true ∧ thingB s.n.toNat p.2 = true) ∧ Hid (Below w4.heap.size w4 wr))
  case atStart => exact ⟨0, by omega, by omega, rfl, (by show ∀ p ∈ (names.zip vals).take 0, _; intro p hp; rw [List.take_zero] at hp; cases hp), Below.refl _ _⟩
  case round =>
    obtain ⟨i, hile, hg, rfl, HZi, HBr⟩ := hrel; have HG : Hid (gk = names.length - i) := hg; clear hg; have HXr : Hid (Bx3 w wr (.cells #[.int .i64 s.n, .slice af s.funs.length cf, .slice ap s.preds.length cp] 62 (0, 0)) (.cells #[.int .i64 kd, .string en, .slice sw ws.length cw, .slice sk ks.length ck] 25 (0, 0)) (.cells #[.string yn, .slice sy yl cy] 44 (0, 0))) := HX4.out.up HBr.out; obtain ⟨a0, a1, a2, -⟩ := blk3 HXr.out.2.1; have la := lt_of_block HXr.out.2.1; obtain ⟨k0, k1, k2, k3⟩ := blk4L HXr.out.2.2.1; have lk := lt_of_block HXr.out.2.2.1; obtain ⟨y0, y1, -⟩ := blk2 HXr.out.2.2.2; have ly := lt_of_block HXr.out.2.2.2; by_cases hlt : i < names.length
    · obtain ⟨t, ht⟩ : ∃ x, names[i]? = some x := ⟨_, List.getElem?_eq_getElem hlt⟩
      (have hqv : i < vals.length := by have := HLs.out.1; omega); obtain ⟨z, hz⟩ : ∃ x, vals[i]? = some x := ⟨_, List.getElem?_eq_getElem hqv⟩; (obtain ⟨g, off, rfl, hc⟩ := HNm.out (fun e => by rw [e] at hlt; simp at hlt)); (obtain ⟨gq, offq, rfl, hd⟩ := HVl.out (fun e => by rw [e] at hqv; simp at hqv)); have z0 := (HXr.out.1.cell (lt_of_cell (hc i t ht))).trans (hc i t ht); have z1 := (HXr.out.1.cell (lt_of_cell (hd i z hz))).trans (hd i z hz); (have hltI : (i : Int) < (names.length : Int) := by omega); (have hltJ : (i : Int) < (vals.length : Int) := by omega); (have HLt : Hid (i < names.length ∧ (names.zip vals)[i]? = some (t, z)) := ⟨hlt, by rw [List.getElem?_zip_eq_some]; exact ⟨ht, hz⟩⟩); (have HIn : Hid (∀ W, Calls Tryz.prog 24 #[.string ⟨t.toArray⟩] W fun e w' => e = .returned (.bool (isNm t)) ∧ w' = W) := fun W => refName_any ⟨t.toArray⟩ (by have := HLn.out t (List.mem_of_getElem? ht); show t.toArray.size ≤ _; simpa using this) W); clear hc hd ht hz hlt hile hqv HNm HVl
      rcases hnt : isNm t with _ | _
      · rw [hnt] at HIn
        go_wp2_with fail
        go_quiet (first
          | (go_at_call 24
             exact Calls.quiet_of_same (HIn.out _))
          | fail)
        go_wp2_with fail; go_ret; (exact ⟨rfl, by first | exact HXr.out.1 | exact below_drewN HXr.out.1 _⟩)
      rw [hnt] at HIn; by_cases hz0 : z < 0
      · go_wp2_with fail
        go_quiet (first
          | (go_at_call 24
             exact Calls.quiet_of_same (HIn.out _))
          | fail)
        go_wp2_with fail; go_ret; (exact ⟨rfl, by first | exact HXr.out.1 | exact below_drewN HXr.out.1 _⟩)
      by_cases hzN : s.n ≤ z
      · go_wp2_with fail
        go_quiet (first
          | (go_at_call 24
             exact Calls.quiet_of_same (HIn.out _))
          | fail)
        go_wp2_with fail; go_ret; (exact ⟨rfl, by first | exact HXr.out.1 | exact below_drewN HXr.out.1 _⟩)
      have HZn : Hid (∀ p ∈ (names.zip vals).take (i + 1), isNm p.1 = true ∧ thingB s.n.toNat p.2 = true) := fun p hp => by
        rw [List.take_add_one, HLt.out.2] at hp
        rcases List.mem_append.1 hp with h | h
        · exact HZi.out p h
        · obtain rfl : p = (t, z) := by simpa using h
          refine ⟨hnt, ?_⟩; unfold thingB; simp only [Bool.and_eq_true, decide_eq_true_eq]; omega
      clear hnt; go_wp2_with fail
      go_quiet (first
        | (go_at_call 24
           exact Calls.quiet_of_same (HIn.out _))
        | fail)
      go_wp2_with fail
      go_roundg (names.length - (i + 1))
      case measure => have := HG.out; have := HLt.out.1; omega
      case rel => exact ⟨i + 1, HLt.out.1, rfl, by go_num, HZn, by first | exact HBr.out | exact below_drewN HBr.out _⟩
    · have hge : ¬ (i : Int) < (names.length : Int) := by omega
      (have hte : (names.zip vals).take i = names.zip vals := List.take_of_length_le (by rw [List.length_zip]; omega)); rw [hte] at HZi; have HZa : Hid (∀ p ∈ names.zip vals, isNm p.1 = true ∧ thingB s.n.toNat p.2 = true) := HZi.out; have HPc : Hid (Calls Tryz.prog 22 _ wr _) := HPu.out _ _ wr (ERp.up HXr.out.1 _ _ HRe.out) (HRy.out.up HXr.out.1); clear hte hlt hile HZi HPu HNm HVl HX4 HBr; go_wp2_with fail; refine HPc.out.mono ?_; rintro _ w5 ⟨t0, E, ht0, hg0, rfl, hb5, hok, hbad⟩; have HX5 : Hid (Bx3 w w5 (.cells #[.int .i64 s.n, .slice af s.funs.length cf, .slice ap s.preds.length cp] 62 (0, 0)) (.cells #[.int .i64 kd, .string en, .slice sw ws.length cw, .slice sk ks.length ck] 25 (0, 0)) (.cells #[.string yn, .slice sy yl cy] 44 (0, 0))) := HXr.out.up hb5; have HTg : Hid (t0.1 = nm ∧ gY y t0 = y) := ⟨ht0, hg0⟩; clear a0 a1 a2 la k0 k1 k2 k3 lk y0 y1 ly; obtain ⟨a0, a1, a2, -⟩ := blk3 HX5.out.2.1; have la := lt_of_block HX5.out.2.1; obtain ⟨k0, k1, k2, k3⟩ := blk4L HX5.out.2.2.1; have lk := lt_of_block HX5.out.2.2.1; obtain ⟨y0, y1, -⟩ := blk2 HX5.out.2.2.2; have ly := lt_of_block HX5.out.2.2.2; clear hb5 HXr HPc ht0 hg0
      rcases hpc : putC (.mk kd en ws ks) nm y (putX nm y t0 (.mk kd en ws ks)) with ⟨pc, pa⟩
      rw [hpc] at hok hbad; by_cases hp0 : pc ≠ 0
      case pos =>
        (have hpB : (pc != 0) = true := by simpa using hp0); obtain rfl := hbad hp0; go_wp2_with fail; go_ret; exact ⟨rfl, below_more (below_more HX5.out.1 _) _⟩
      (obtain rfl : pc = 0 := by simpa using hp0); have HEq : Hid (EQ w5 _ (putX nm y t0 (.mk kd en ws ks)) E) := hok rfl; (have HPc : Hid ((putC (.mk kd en ws ks) nm y (putX nm y t0 (.mk kd en ws ks))).1 = 0) := by show _ = _; rw [hpc])
      have hsh : ∃ c0 c1 c2 c3, E = .agg #[c0, c1, c2, c3] := by
        have h9 := HEq.out; generalize putX nm y t0 (.mk kd en ws ks) = zz at h9; obtain ⟨k, n, l1, l2⟩ := zz; obtain ⟨_, _, _, _, e, -⟩ := EQ.def.1 h9; exact ⟨_, _, _, _, e⟩
      obtain ⟨c0, c1, c2, c3, rfl⟩ := hsh; obtain ⟨k9, n9, x9, l9, y9, x8, l8, y8, rfl, rfl, rfl, rfl⟩ := eq_shape HEq.out; clear hok hbad hpc hp0; obtain ⟨W6, hW6⟩ : ∃ W6, W6 = (w5.alloc (.cells #[.int .i64 k9, .string n9, .slice x9 l9 y9, .slice x8 l8 y8] 25 (0, 0))).alloc (.cells #[.int .i64 0, .int .i64 pa] 30 (0, 0)) := ⟨_, rfl⟩; (have HX6 : Hid (Bx3 w W6 (.cells #[.int .i64 s.n, .slice af s.funs.length cf, .slice ap s.preds.length cp] 62 (0, 0)) (.cells #[.int .i64 kd, .string en, .slice sw ws.length cw, .slice sk ks.length ck] 25 (0, 0)) (.cells #[.string yn, .slice sy yl cy] 44 (0, 0))) := by show Bx3 _ _ _ _ _; rw [hW6]; exact (HX5.out.up (below_more (Below.refl _ _) _)).up (below_more (Below.refl _ _) _))
      have HP6 : Hid (W6.heap[w5.heap.size]? = some (.cells #[.int .i64 k9, .string n9, .slice x9 l9 y9, .slice x8 l8 y8] 25 (0, 0)) ∧ ERp W6 (putX nm y t0 (.mk kd en ws ks)) (.agg #[.int .i64 k9, .string n9, .slice x9 l9 y9, .slice x8 l8 y8])) := by
        rw [hW6]; exact ⟨alloc_keep (blk_new _ _) _, ERp.up (below_more (below_more (Below.refl _ _) _) _) _ _ (EQ.rep _ _ HEq.out)⟩
      obtain ⟨-, -, hpw, -⟩ := putC_zero HPc.out; obtain ⟨-, hys, -, s1, p1, f1, hwc⟩ := pwcode_ok hpw; (have HWc : Hid (Calls Tryz.prog 36 _ W6 _) := wval_all s names vals HSt.out HLs.out.1 HZa.out (by have := HLs.out.2; omega) w _ _ _ HRs.out HRm.out HRv.out (y.size + 1) y _ W6 (Nat.lt_succ_self _) hys (wchk_vr _ _ _ _ _ _ _ hwc) HRy.out HX6.out.1); clear hpw hys hwc; go_wp2_with fail; rw [← hW6]; clear hW6; refine HWc.out.mono ?_; rintro _ w7 ⟨r, rfl, hb7, hr7⟩; have HX7 : Hid (Bx3 w w7 (.cells #[.int .i64 s.n, .slice af s.funs.length cf, .slice ap s.preds.length cp] 62 (0, 0)) (.cells #[.int .i64 kd, .string en, .slice sw ws.length cw, .slice sk ks.length ck] 25 (0, 0)) (.cells #[.string yn, .slice sy yl cy] 44 (0, 0))) := HX6.out.up hb7; have HP7 : Hid (w7.heap[w5.heap.size]? = some (.cells #[.int .i64 k9, .string n9, .slice x9 l9 y9, .slice x8 l8 y8] 25 (0, 0)) ∧ ERp w7 (putX nm y t0 (.mk kd en ws ks)) (.agg #[.int .i64 k9, .string n9, .slice x9 l9 y9, .slice x8 l8 y8])) := ⟨below_keep hb7 HP6.out.1, ERp.up hb7 _ _ HP6.out.2⟩; clear a0 a1 a2 la k0 k1 k2 k3 lk y0 y1 ly; obtain ⟨a0, a1, a2, -⟩ := blk3 HX7.out.2.1; have la := lt_of_block HX7.out.2.1; obtain ⟨k0, k1, k2, k3⟩ := blk4L HX7.out.2.2.1; have lk := lt_of_block HX7.out.2.2.1; obtain ⟨y0, y1, -⟩ := blk2 HX7.out.2.2.2; have ly := lt_of_block HX7.out.2.2.2; clear hb7 HWc HX6 HP6 HX5; by_cases hr0 : r < 0
      case pos =>
        go_wp2_with fail; go_ret; exact ⟨rfl, HX7.out.1⟩
      (obtain ⟨hgd, hrw, -⟩ := hr7 (by omega)); obtain ⟨C1, D1, B1, C2, D2, B2, hv1, hv2, hv3⟩ := puts_abs s (.mk kd en ws ks) nm y t0 names vals r HTg.out.1 HTg.out.2 HPc.out HLs.out.1 HLs.out.2 HZa.out hgd hrw HLn.out; have HV1 : Hid _ := hv1; have HV2 : Hid _ := hv2; have HV3 : Hid (C2 = 0 → C1 = 0 ∧ B1 = B2) := hv3; clear hgd hrw hr7 hv1 hv2 hv3 HPc HTg HZa; obtain ⟨p0, p1, p2, p3⟩ := blk4L HP7.out.1; go_wp2_with fail; refine (HV1.out _ _ _ _ _ (HRs.out.up HX7.out.1) HP7.out.2 (HRm.out.up HX7.out.1) (HRv.out.up HX7.out.1)).mono ?_; rintro _ w8 ⟨rfl, hb8⟩; obtain ⟨W9, hW9⟩ : ∃ W9, W9 = w8.alloc (.cells #[.int .i64 C1, .int .i64 D1] 30 (0, 0)) := ⟨_, rfl⟩; (have HX9 : Hid (Bx3 w W9 (.cells #[.int .i64 s.n, .slice af s.funs.length cf, .slice ap s.preds.length cp] 62 (0, 0)) (.cells #[.int .i64 kd, .string en, .slice sw ws.length cw, .slice sk ks.length ck] 25 (0, 0)) (.cells #[.string yn, .slice sy yl cy] 44 (0, 0))) := by show Bx3 _ _ _ _ _; rw [hW9]; exact (HX7.out.up hb8).up (below_more (Below.refl _ _) _)); (have HF9 : Hid (W9.heap[w8.heap.size]? = some (.cells #[.int .i64 C1, .int .i64 D1] 30 (0, 0))) := by show _ = _; rw [hW9]; exact blk_new _ _); clear a0 a1 a2 la k0 k1 k2 k3 lk y0 y1 ly p0 p1 p2 p3; clear hb8 HV1 HP7 HX7; go_wp2_with fail; rw [← hW9]; clear hW9; (refine wp_region_gh (by kernel_rfl) (by kernel_rfl) (by kernel_rfl) 132 rfl (by kernel_rfl) [fun _ v _ => v = (.agg #[.int .i64 s.n, .slice af s.funs.length cf, .slice ap s.preds.length cp]), fun _ v _ => v = (.agg #[.int .i64 kd, .string en, .slice sw ws.length cw, .slice sk ks.length ck]), fun _ v _ => v = (.slice an names.length cn), fun y v _ => v = (.slice y.a1 names.length y.c1), fun _ v _ => v = (.string nm), fun y v _ => v = (.slice (some ⟨y.q1, 0, none⟩) 1 1), fun y v _ => v = (.slice y.a2 (names ++ [nm.data.toList]).length y.c2), fun _ v _ => v = (.slice av vals.length cv), fun y v _ => v = (.slice y.b1 vals.length y.d1), fun _ v _ => v = (.int .i64 r), fun y v _ => v = (.slice (some ⟨y.q2, 0, none⟩) 1 1), fun y v _ => v = (.slice y.b2 (vals ++ [r]).length y.d2), fun _ v _ => v = (.tuple #[.bool B2, .agg #[.int .i64 C2, .int .i64 D2]]), fun _ v _ => v = (.tuple #[.bool B2, .agg #[.int .i64 C2, .int .i64 D2]]), fun _ v _ => v = (.bool B2), fun _ v _ => v = (.agg #[.int .i64 C2, .int .i64 D2]), fun y v _ => v = (.pointer (some ⟨y.ob, 0, none⟩)), fun _ v _ => v = (.bool B2), fun _ _ _ => True] (fun _ _ => true) (fun L => StPq W9 names nm.data.toList vals r C2 D2 (L 3) (L 5) (L 6) (L 8) (L 10) (L 11) (L 16) (L 18)) (GPq.zero) ?_ ?_ ?_)
      · exact fun wx h _ => ⟨h, (fun e => by cases e), (fun e => by cases e), (fun e => by cases e), (fun e => by cases e), (fun e => by cases e), (fun e => by cases e), (fun e => by cases e)⟩
      · refine ⟨?_, ?_, ?_, ?_, ?_, ?_, ?_, ?_, ?_, ?_, ?_, ?_, ?_, ?_, ?_, ?_, ?_, ?_, ?_, trivial⟩
        · intro L y a9 wx hSt hLi hdl hcl hold hdep K hK
          have HSt : Hid (StPq W9 names nm.data.toList vals r C2 D2 (L 3) (L 5) (L 6) (L 8) (L 10) (L 11) (L 16) (L 18) y wx) := hSt; clear hSt; have t6 : a9.tmps[6]? = some (.pointer (some ⟨w.heap.size, 0, none⟩)) := hold 6 rfl; obtain ⟨f0, f1, f2, -⟩ := blk3 (below_keep HSt.out.below HX9.out.2.1); clear hold hdep hdl hcl hLi; go_simp; (exact hK.out _ _ y HSt.out rfl (fun j hj hl => ⟨hl, fun u h => h⟩))
        · intro L y a9 wx hSt hLi hdl hcl hold hdep K hK
          have HSt : Hid (StPq W9 names nm.data.toList vals r C2 D2 (L 3) (L 5) (L 6) (L 8) (L 10) (L 11) (L 16) (L 18) y wx) := hSt; clear hSt; have t7 : a9.tmps[7]? = some (.pointer (some ⟨w.heap.size + 1, 0, none⟩)) := hold 7 rfl; obtain ⟨f0, f1, f2, f3⟩ := blk4L (below_keep HSt.out.below HX9.out.2.2.1); clear hold hdep hdl hcl hLi; go_simp; (exact hK.out _ _ y HSt.out rfl (fun j hj hl => ⟨hl, fun u h => h⟩))
        · intro L y a9 wx hSt hLi hdl hcl hold hdep K hK
          have HSt : Hid (StPq W9 names nm.data.toList vals r C2 D2 (L 3) (L 5) (L 6) (L 8) (L 10) (L 11) (L 16) (L 18) y wx) := hSt; clear hSt; have t4 : a9.tmps[4]? = some (.slice an names.length cn) := hold 4 rfl; clear hold hdep hdl hcl hLi; go_simp; (exact hK.out _ _ y HSt.out rfl (fun j hj hl => ⟨hl, fun u h => h⟩))
        · intro L y a9 wx hSt hLi hdl hcl hold hdep K hK
          have HSt : Hid (StPq W9 names nm.data.toList vals r C2 D2 (L 3) (L 5) (L 6) (L 8) (L 10) (L 11) (L 16) (L 18) y wx) := hSt; clear hSt; obtain ⟨v108, t108, q108⟩ := hdep 2 rfl _ 108 rfl rfl; have e108 : v108 = (.slice an names.length cn) := q108 rfl; subst e108; have hzw := HSt.out.below.size; clear hold hdep hdl hcl; (refine step_appS rfl _ _ rfl W9.heap.size [] names none 0 _ rfl KS.nil (eval_tmpM t108) ((HRm.out.up HX9.out.1).up HSt.out.below) hzw (by have := HLs.out.2; simp; omega) ?_); intro ad3 cp3 w3 h3 k3 hat3; (refine hK.out _ _ { y with a1 := ad3, c1 := cp3 } (HSt.out.s3 (k3.below (Nat.le_refl _) (fun b _ e => by cases e)) h3) rfl ?_); intro j hj hl
          rcases j with _ | _ | _ | _ | _ | _ | _ | _ | _ | _ | _ | _ | _ | _ | _ | _ | _ | _ | _ | j
          · exact ⟨rfl, fun u h => h⟩
          · exact ⟨rfl, fun u h => h⟩
          · exact ⟨rfl, fun u h => h⟩
          · exact Bool.noConfusion (hLi.symm.trans hj)
          · exact ⟨rfl, fun u h => h⟩
          · exact ⟨rfl, fun u h => h⟩
          · exact ⟨rfl, fun u h => h⟩
          · exact ⟨rfl, fun u h => h⟩
          · exact ⟨rfl, fun u h => h⟩
          · exact ⟨rfl, fun u h => h⟩
          · exact ⟨rfl, fun u h => h⟩
          · exact ⟨rfl, fun u h => h⟩
          · exact ⟨rfl, fun u h => h⟩
          · exact ⟨rfl, fun u h => h⟩
          · exact ⟨rfl, fun u h => h⟩
          · exact ⟨rfl, fun u h => h⟩
          · exact ⟨rfl, fun u h => h⟩
          · exact ⟨rfl, fun u h => h⟩
          · exact ⟨rfl, fun u h => h⟩
          · exact ⟨rfl, fun u h => h⟩
        · intro L y a9 wx hSt hLi hdl hcl hold hdep K hK
          have HSt : Hid (StPq W9 names nm.data.toList vals r C2 D2 (L 3) (L 5) (L 6) (L 8) (L 10) (L 11) (L 16) (L 18) y wx) := hSt; clear hSt; have t2 : a9.tmps[2]? = some (.string nm) := hold 2 rfl; clear hold hdep hdl hcl hLi; go_simp; (exact hK.out _ _ y HSt.out rfl (fun j hj hl => ⟨hl, fun u h => h⟩))
        · intro L y a9 wx hSt hLi hdl hcl hold hdep K hK
          have HSt : Hid (StPq W9 names nm.data.toList vals r C2 D2 (L 3) (L 5) (L 6) (L 8) (L 10) (L 11) (L 16) (L 18) y wx) := hSt; clear hSt; obtain ⟨v110, t110, q110⟩ := hdep 4 rfl _ 110 rfl rfl; have e110 : v110 = (.string nm) := q110 rfl; subst e110; have hzw := HSt.out.below.size; clear hold hdep hdl hcl; go_simp; (refine hK.out _ _ { y with q1 := wx.heap.size } (HSt.out.s5 (below_more (Below.refl _ _) _) (by rw [str_eta]; exact blk_new _ _) hzw) rfl ?_); intro j hj hl
          rcases j with _ | _ | _ | _ | _ | _ | _ | _ | _ | _ | _ | _ | _ | _ | _ | _ | _ | _ | _ | j
          · exact ⟨rfl, fun u h => h⟩
          · exact ⟨rfl, fun u h => h⟩
          · exact ⟨rfl, fun u h => h⟩
          · exact ⟨rfl, fun u h => h⟩
          · exact ⟨rfl, fun u h => h⟩
          · exact Bool.noConfusion (hLi.symm.trans hj)
          · exact ⟨rfl, fun u h => h⟩
          · exact ⟨rfl, fun u h => h⟩
          · exact ⟨rfl, fun u h => h⟩
          · exact ⟨rfl, fun u h => h⟩
          · exact ⟨rfl, fun u h => h⟩
          · exact ⟨rfl, fun u h => h⟩
          · exact ⟨rfl, fun u h => h⟩
          · exact ⟨rfl, fun u h => h⟩
          · exact ⟨rfl, fun u h => h⟩
          · exact ⟨rfl, fun u h => h⟩
          · exact ⟨rfl, fun u h => h⟩
          · exact ⟨rfl, fun u h => h⟩
          · exact ⟨rfl, fun u h => h⟩
          · exact ⟨rfl, fun u h => h⟩
        · intro L y a9 wx hSt hLi hdl hcl hold hdep K hK
          have HSt : Hid (StPq W9 names nm.data.toList vals r C2 D2 (L 3) (L 5) (L 6) (L 8) (L 10) (L 11) (L 16) (L 18) y wx) := hSt; clear hSt; obtain ⟨v109, t109, q109⟩ := hdep 3 rfl _ 109 rfl rfl; have e109 : v109 = (.slice y.a1 names.length y.c1) := q109 rfl; subst e109; obtain ⟨v111, t111, q111⟩ := hdep 5 rfl _ 111 rfl rfl; have e111 : v111 = (.slice (some ⟨y.q1, 0, none⟩) 1 1) := q111 rfl; subst e111; have e3 : L 3 = true := hdl 3 rfl; have e5 : L 5 = true := hdl 5 rfl; have hzw := HSt.out.below.size; clear hold hdep hdl hcl; (refine step_appS rfl _ _ rfl W9.heap.size names [nm.data.toList] y.a1 y.c1 _ (eval_tmpM t109) (HSt.out.n1 e3 hLi) (eval_tmpM t111) (SL.one (HSt.out.m1 e5 hLi).1) hzw (by have := HLs.out.2; simp; omega) ?_); intro ad3 cp3 w3 h3 k3 hat3; refine hK.out _ _ { y with a2 := ad3, c2 := cp3 } (HSt.out.s6 hLi e3 k3 h3) rfl ?_; intro j hj hl
          rcases j with _ | _ | _ | _ | _ | _ | _ | _ | _ | _ | _ | _ | _ | _ | _ | _ | _ | _ | _ | j
          · exact ⟨rfl, fun u h => h⟩
          · exact ⟨rfl, fun u h => h⟩
          · exact ⟨rfl, fun u h => h⟩
          · exact ⟨rfl, fun u h => h⟩
          · exact ⟨rfl, fun u h => h⟩
          · exact ⟨rfl, fun u h => h⟩
          · exact Bool.noConfusion (hLi.symm.trans hj)
          · exact ⟨rfl, fun u h => h⟩
          · exact ⟨rfl, fun u h => h⟩
          · exact ⟨rfl, fun u h => h⟩
          · exact ⟨rfl, fun u h => h⟩
          · exact ⟨rfl, fun u h => h⟩
          · exact ⟨rfl, fun u h => h⟩
          · exact ⟨rfl, fun u h => h⟩
          · exact ⟨rfl, fun u h => h⟩
          · exact ⟨rfl, fun u h => h⟩
          · exact ⟨rfl, fun u h => h⟩
          · exact ⟨rfl, fun u h => h⟩
          · exact ⟨rfl, fun u h => h⟩
          · exact ⟨rfl, fun u h => h⟩
        · intro L y a9 wx hSt hLi hdl hcl hold hdep K hK
          have HSt : Hid (StPq W9 names nm.data.toList vals r C2 D2 (L 3) (L 5) (L 6) (L 8) (L 10) (L 11) (L 16) (L 18) y wx) := hSt; clear hSt; have t5 : a9.tmps[5]? = some (.slice av vals.length cv) := hold 5 rfl; clear hold hdep hdl hcl hLi; go_simp; (exact hK.out _ _ y HSt.out rfl (fun j hj hl => ⟨hl, fun u h => h⟩))
        · intro L y a9 wx hSt hLi hdl hcl hold hdep K hK
          have HSt : Hid (StPq W9 names nm.data.toList vals r C2 D2 (L 3) (L 5) (L 6) (L 8) (L 10) (L 11) (L 16) (L 18) y wx) := hSt; clear hSt; obtain ⟨v113, t113, q113⟩ := hdep 7 rfl _ 113 rfl rfl; have e113 : v113 = (.slice av vals.length cv) := q113 rfl; subst e113; have hzw := HSt.out.below.size; clear hold hdep hdl hcl; (refine step_appIv rfl _ _ rfl W9.heap.size [] vals none 0 _ rfl KIv.nil (eval_tmpM t113) ((HRv.out.up HX9.out.1).up HSt.out.below) hzw (by have := HLs.out; simp; omega) ?_); intro ad3 cp3 w3 h3 k3 hat3; (refine hK.out _ _ { y with b1 := ad3, d1 := cp3 } (HSt.out.s8 (k3.below (Nat.le_refl _) (fun b _ e => by cases e)) h3) rfl ?_); intro j hj hl
          rcases j with _ | _ | _ | _ | _ | _ | _ | _ | _ | _ | _ | _ | _ | _ | _ | _ | _ | _ | _ | j
          · exact ⟨rfl, fun u h => h⟩
          · exact ⟨rfl, fun u h => h⟩
          · exact ⟨rfl, fun u h => h⟩
          · exact ⟨rfl, fun u h => h⟩
          · exact ⟨rfl, fun u h => h⟩
          · exact ⟨rfl, fun u h => h⟩
          · exact ⟨rfl, fun u h => h⟩
          · exact ⟨rfl, fun u h => h⟩
          · exact Bool.noConfusion (hLi.symm.trans hj)
          · exact ⟨rfl, fun u h => h⟩
          · exact ⟨rfl, fun u h => h⟩
          · exact ⟨rfl, fun u h => h⟩
          · exact ⟨rfl, fun u h => h⟩
          · exact ⟨rfl, fun u h => h⟩
          · exact ⟨rfl, fun u h => h⟩
          · exact ⟨rfl, fun u h => h⟩
          · exact ⟨rfl, fun u h => h⟩
          · exact ⟨rfl, fun u h => h⟩
          · exact ⟨rfl, fun u h => h⟩
          · exact ⟨rfl, fun u h => h⟩
        · intro L y a9 wx hSt hLi hdl hcl hold hdep K hK
          have HSt : Hid (StPq W9 names nm.data.toList vals r C2 D2 (L 3) (L 5) (L 6) (L 8) (L 10) (L 11) (L 16) (L 18) y wx) := hSt; clear hSt; have t16 : a9.tmps[16]? = some (.int .i64 r) := hold 16 rfl; clear hold hdep hdl hcl hLi; go_simp; (exact hK.out _ _ y HSt.out rfl (fun j hj hl => ⟨hl, fun u h => h⟩))
        · intro L y a9 wx hSt hLi hdl hcl hold hdep K hK
          have HSt : Hid (StPq W9 names nm.data.toList vals r C2 D2 (L 3) (L 5) (L 6) (L 8) (L 10) (L 11) (L 16) (L 18) y wx) := hSt; clear hSt; obtain ⟨v115, t115, q115⟩ := hdep 9 rfl _ 115 rfl rfl; have e115 : v115 = (.int .i64 r) := q115 rfl; subst e115; have hzw := HSt.out.below.size; clear hold hdep hdl hcl; go_simp; refine hK.out _ _ { y with q2 := wx.heap.size } (HSt.out.s10 (below_more (Below.refl _ _) _) (blk_new _ _) hzw) rfl ?_; intro j hj hl
          rcases j with _ | _ | _ | _ | _ | _ | _ | _ | _ | _ | _ | _ | _ | _ | _ | _ | _ | _ | _ | j
          · exact ⟨rfl, fun u h => h⟩
          · exact ⟨rfl, fun u h => h⟩
          · exact ⟨rfl, fun u h => h⟩
          · exact ⟨rfl, fun u h => h⟩
          · exact ⟨rfl, fun u h => h⟩
          · exact ⟨rfl, fun u h => h⟩
          · exact ⟨rfl, fun u h => h⟩
          · exact ⟨rfl, fun u h => h⟩
          · exact ⟨rfl, fun u h => h⟩
          · exact ⟨rfl, fun u h => h⟩
          · exact Bool.noConfusion (hLi.symm.trans hj)
          · exact ⟨rfl, fun u h => h⟩
          · exact ⟨rfl, fun u h => h⟩
          · exact ⟨rfl, fun u h => h⟩
          · exact ⟨rfl, fun u h => h⟩
          · exact ⟨rfl, fun u h => h⟩
          · exact ⟨rfl, fun u h => h⟩
          · exact ⟨rfl, fun u h => h⟩
          · exact ⟨rfl, fun u h => h⟩
          · exact ⟨rfl, fun u h => h⟩
        · intro L y a9 wx hSt hLi hdl hcl hold hdep K hK
          have HSt : Hid (StPq W9 names nm.data.toList vals r C2 D2 (L 3) (L 5) (L 6) (L 8) (L 10) (L 11) (L 16) (L 18) y wx) := hSt; clear hSt; obtain ⟨v114, t114, q114⟩ := hdep 8 rfl _ 114 rfl rfl; have e114 : v114 = (.slice y.b1 vals.length y.d1) := q114 rfl; subst e114; obtain ⟨v116, t116, q116⟩ := hdep 10 rfl _ 116 rfl rfl; have e116 : v116 = (.slice (some ⟨y.q2, 0, none⟩) 1 1) := q116 rfl; subst e116; have e8 : L 8 = true := hdl 8 rfl; have e10 : L 10 = true := hdl 10 rfl; have hzw := HSt.out.below.size; clear hold hdep hdl hcl; (refine step_appIv rfl _ _ rfl W9.heap.size vals [r] y.b1 y.d1 _ (eval_tmpM t114) (HSt.out.v1 e8 hLi) (eval_tmpM t116) (IL.oneV (HSt.out.m2 e10 hLi).1) hzw (by have := HLs.out; simp; omega) ?_); intro ad3 cp3 w3 h3 k3 hat3; refine hK.out _ _ { y with b2 := ad3, d2 := cp3 } (HSt.out.s11 hLi e8 k3 h3) rfl ?_; intro j hj hl
          rcases j with _ | _ | _ | _ | _ | _ | _ | _ | _ | _ | _ | _ | _ | _ | _ | _ | _ | _ | _ | j
          · exact ⟨rfl, fun u h => h⟩
          · exact ⟨rfl, fun u h => h⟩
          · exact ⟨rfl, fun u h => h⟩
          · exact ⟨rfl, fun u h => h⟩
          · exact ⟨rfl, fun u h => h⟩
          · exact ⟨rfl, fun u h => h⟩
          · exact ⟨rfl, fun u h => h⟩
          · exact ⟨rfl, fun u h => h⟩
          · exact ⟨rfl, fun u h => h⟩
          · exact ⟨rfl, fun u h => h⟩
          · exact ⟨rfl, fun u h => h⟩
          · exact Bool.noConfusion (hLi.symm.trans hj)
          · exact ⟨rfl, fun u h => h⟩
          · exact ⟨rfl, fun u h => h⟩
          · exact ⟨rfl, fun u h => h⟩
          · exact ⟨rfl, fun u h => h⟩
          · exact ⟨rfl, fun u h => h⟩
          · exact ⟨rfl, fun u h => h⟩
          · exact ⟨rfl, fun u h => h⟩
          · exact ⟨rfl, fun u h => h⟩
        · intro L y a9 wx hSt hLi hdl hcl hold hdep K hK
          have HSt : Hid (StPq W9 names nm.data.toList vals r C2 D2 (L 3) (L 5) (L 6) (L 8) (L 10) (L 11) (L 16) (L 18) y wx) := hSt; clear hSt; obtain ⟨v106, t106, q106⟩ := hdep 0 rfl _ 106 rfl rfl; have e106 : v106 = (.agg #[.int .i64 s.n, .slice af s.funs.length cf, .slice ap s.preds.length cp]) := q106 rfl; subst e106; obtain ⟨v107, t107, q107⟩ := hdep 1 rfl _ 107 rfl rfl; have e107 : v107 = (.agg #[.int .i64 kd, .string en, .slice sw ws.length cw, .slice sk ks.length ck]) := q107 rfl; subst e107; obtain ⟨v112, t112, q112⟩ := hdep 6 rfl _ 112 rfl rfl; have e112 : v112 = (.slice y.a2 (names ++ [nm.data.toList]).length y.c2) := q112 rfl; subst e112; obtain ⟨v117, t117, q117⟩ := hdep 11 rfl _ 117 rfl rfl; have e117 : v117 = (.slice y.b2 (vals ++ [r]).length y.d2) := q117 rfl; subst e117; have e6 : L 6 = true := hdl 6 rfl; have e11 : L 11 = true := hdl 11 rfl; have hw6 := HV2.out _ _ _ _ wx ((HRs.out.up HX9.out.1).up HSt.out.below) (ERp.up HSt.out.below _ _ (ERp.up HX9.out.1 _ _ HRe.out)) (SL.own (HSt.out.n2 e6)) (IL.own (HSt.out.v2 e11)); rw [List.length_append, List.length_append] at hw6; have HW6 : Hid (Calls Tryz.prog 37 #[.agg #[.int .i64 s.n, .slice af s.funs.length cf, .slice ap s.preds.length cp], .agg #[.int .i64 kd, .string en, .slice sw ws.length cw, .slice sk ks.length ck], .slice y.a2 (names.length + 1) y.c2, .slice y.b2 (vals.length + 1) y.d2] wx _) := hw6; clear hw6; clear hold hdep hdl hcl; go_simp; refine HW6.out.mono ?_; rintro _ w3 ⟨rfl, hb3⟩; refine hK.out _ _ y (HSt.out.up hb3) rfl ?_; intro j hj hl
          rcases j with _ | _ | _ | _ | _ | _ | _ | _ | _ | _ | _ | _ | _ | _ | _ | _ | _ | _ | _ | j
          · exact ⟨rfl, fun u h => h⟩
          · exact ⟨rfl, fun u h => h⟩
          · exact ⟨rfl, fun u h => h⟩
          · exact ⟨rfl, fun u h => h⟩
          · exact ⟨rfl, fun u h => h⟩
          · exact ⟨rfl, fun u h => h⟩
          · exact ⟨rfl, fun u h => h⟩
          · exact ⟨rfl, fun u h => h⟩
          · exact ⟨rfl, fun u h => h⟩
          · exact ⟨rfl, fun u h => h⟩
          · exact ⟨rfl, fun u h => h⟩
          · exact ⟨rfl, fun u h => h⟩
          · exact Bool.noConfusion (hLi.symm.trans hj)
          · exact ⟨rfl, fun u h => h⟩
          · exact ⟨rfl, fun u h => h⟩
          · exact ⟨rfl, fun u h => h⟩
          · exact ⟨rfl, fun u h => h⟩
          · exact ⟨rfl, fun u h => h⟩
          · exact ⟨rfl, fun u h => h⟩
          · exact ⟨rfl, fun u h => h⟩
        · intro L y a9 wx hSt hLi hdl hcl hold hdep K hK
          have HSt : Hid (StPq W9 names nm.data.toList vals r C2 D2 (L 3) (L 5) (L 6) (L 8) (L 10) (L 11) (L 16) (L 18) y wx) := hSt; clear hSt; obtain ⟨v118, t118, q118⟩ := hdep 12 rfl _ 118 rfl rfl; have e118 : v118 = (.tuple #[.bool B2, .agg #[.int .i64 C2, .int .i64 D2]]) := q118 rfl; subst e118; clear hold hdep hdl hcl hLi; go_simp; (exact hK.out _ _ y HSt.out rfl (fun j hj hl => ⟨hl, fun u h => h⟩))
        · intro L y a9 wx hSt hLi hdl hcl hold hdep K hK
          have HSt : Hid (StPq W9 names nm.data.toList vals r C2 D2 (L 3) (L 5) (L 6) (L 8) (L 10) (L 11) (L 16) (L 18) y wx) := hSt; clear hSt; obtain ⟨v105, t105, q105⟩ := hdep 13 rfl _ 105 rfl rfl; have e105 : v105 = (.tuple #[.bool B2, .agg #[.int .i64 C2, .int .i64 D2]]) := q105 rfl; subst e105; clear hold hdep hdl hcl hLi; go_simp; (exact hK.out _ _ y HSt.out rfl (fun j hj hl => ⟨hl, fun u h => h⟩))
        · intro L y a9 wx hSt hLi hdl hcl hold hdep K hK
          have HSt : Hid (StPq W9 names nm.data.toList vals r C2 D2 (L 3) (L 5) (L 6) (L 8) (L 10) (L 11) (L 16) (L 18) y wx) := hSt; clear hSt; obtain ⟨v105, t105, q105⟩ := hdep 13 rfl _ 105 rfl rfl; have e105 : v105 = (.tuple #[.bool B2, .agg #[.int .i64 C2, .int .i64 D2]]) := q105 rfl; subst e105; clear hold hdep hdl hcl hLi; go_simp; (exact hK.out _ _ y HSt.out rfl (fun j hj hl => ⟨hl, fun u h => h⟩))
        · intro L y a9 wx hSt hLi hdl hcl hold hdep K hK
          have HSt : Hid (StPq W9 names nm.data.toList vals r C2 D2 (L 3) (L 5) (L 6) (L 8) (L 10) (L 11) (L 16) (L 18) y wx) := hSt; clear hSt; (have e18 : L 18 = false := not_yet hLi fun h => hcl 18 _ rfl h 16 rfl); have hzw := HSt.out.below.size; clear hold hdep hdl hcl; go_simp; refine hK.out _ _ { y with ob := wx.heap.size } (HSt.out.s16 e18 (below_more (Below.refl _ _) _) (blk_new _ _) hzw) rfl ?_; intro j hj hl
          rcases j with _ | _ | _ | _ | _ | _ | _ | _ | _ | _ | _ | _ | _ | _ | _ | _ | _ | _ | _ | j
          · exact ⟨rfl, fun u h => h⟩
          · exact ⟨rfl, fun u h => h⟩
          · exact ⟨rfl, fun u h => h⟩
          · exact ⟨rfl, fun u h => h⟩
          · exact ⟨rfl, fun u h => h⟩
          · exact ⟨rfl, fun u h => h⟩
          · exact ⟨rfl, fun u h => h⟩
          · exact ⟨rfl, fun u h => h⟩
          · exact ⟨rfl, fun u h => h⟩
          · exact ⟨rfl, fun u h => h⟩
          · exact ⟨rfl, fun u h => h⟩
          · exact ⟨rfl, fun u h => h⟩
          · exact ⟨rfl, fun u h => h⟩
          · exact ⟨rfl, fun u h => h⟩
          · exact ⟨rfl, fun u h => h⟩
          · exact ⟨rfl, fun u h => h⟩
          · exact Bool.noConfusion (hLi.symm.trans hj)
          · exact ⟨rfl, fun u h => h⟩
          · exact ⟨rfl, fun u h => h⟩
          · exact ⟨rfl, fun u h => h⟩
        · intro L y a9 wx hSt hLi hdl hcl hold hdep K hK
          have HSt : Hid (StPq W9 names nm.data.toList vals r C2 D2 (L 3) (L 5) (L 6) (L 8) (L 10) (L 11) (L 16) (L 18) y wx) := hSt; clear hSt; obtain ⟨v119, t119, q119⟩ := hdep 14 rfl _ 119 rfl rfl; have e119 : v119 = (.bool B2) := q119 rfl; subst e119; clear hold hdep hdl hcl hLi; go_simp; (exact hK.out _ _ y HSt.out rfl (fun j hj hl => ⟨hl, fun u h => h⟩))
        · intro L y a9 wx hSt hLi hdl hcl hold hdep K hK
          have HSt : Hid (StPq W9 names nm.data.toList vals r C2 D2 (L 3) (L 5) (L 6) (L 8) (L 10) (L 11) (L 16) (L 18) y wx) := hSt; clear hSt; obtain ⟨v20, t20, q20⟩ := hdep 16 rfl _ 20 rfl rfl; have e20 : v20 = (.pointer (some ⟨y.ob, 0, none⟩)) := q20 rfl; subst e20; obtain ⟨v120, t120, q120⟩ := hdep 15 rfl _ 120 rfl rfl; have e120 : v120 = (.agg #[.int .i64 C2, .int .i64 D2]) := q120 rfl; subst e120; have e16 : L 16 = true := hdl 16 rfl; have e15 : L 15 = true := hdl 15 rfl; have e13 : L 13 = true := hcl 15 _ rfl e15 13 rfl; have e12 : L 12 = true := hcl 13 _ rfl e13 12 rfl; have e11 : L 11 = true := hcl 12 _ rfl e12 11 rfl; have e6 : L 6 = true := hcl 12 _ rfl e12 6 rfl; have hob := (HSt.out.ob e16).1; obtain ⟨o0, o1, o2, o3⟩ := blk2 hob; have ol := lt_of_block hob; clear hob; clear hold hdep hdl hcl; go_simp; refine hK.out (.bool true) _ y (HSt.out.s18 e6 e11 e16) trivial ?_; intro j hj hl
          rcases j with _ | _ | _ | _ | _ | _ | _ | _ | _ | _ | _ | _ | _ | _ | _ | _ | _ | _ | _ | j
          · exact ⟨rfl, fun u h => h⟩
          · exact ⟨rfl, fun u h => h⟩
          · exact ⟨rfl, fun u h => h⟩
          · exact ⟨rfl, fun u h => h⟩
          · exact ⟨rfl, fun u h => h⟩
          · exact ⟨rfl, fun u h => h⟩
          · exact ⟨rfl, fun u h => h⟩
          · exact ⟨rfl, fun u h => h⟩
          · exact ⟨rfl, fun u h => h⟩
          · exact ⟨rfl, fun u h => h⟩
          · exact ⟨rfl, fun u h => h⟩
          · exact ⟨rfl, fun u h => h⟩
          · exact ⟨rfl, fun u h => h⟩
          · exact ⟨rfl, fun u h => h⟩
          · exact ⟨rfl, fun u h => h⟩
          · exact ⟨rfl, fun u h => h⟩
          · exact ⟨rfl, fun u h => h⟩
          · exact ⟨rfl, fun u h => h⟩
          · exact Bool.noConfusion (hLi.symm.trans hj)
          · exact ⟨rfl, fun u h => h⟩
      · intro L y a9 wx hall hSt hsz hdf hold hgot
        have hS : StPq W9 names nm.data.toList vals r C2 D2 (L 3) (L 5) (L 6) (L 8) (L 10) (L 11) (L 16) (L 18) y wx := hSt; have e16 : L 16 = true := hall 16 (Nat.le_of_ble_eq_true rfl); have e18 : L 18 = true := hall 18 (Nat.le_of_ble_eq_true rfl); obtain ⟨ho, -⟩ := hS.ob e16; rw [e18] at ho; have hbX := hS.below; obtain ⟨v19, t19, q19⟩ := hgot 17 _ 19 rfl rfl; have eA : v19 = (.bool B2) := q19 rfl; subst eA; obtain ⟨v20, t20, q20⟩ := hgot 16 _ 20 rfl rfl; have eB : v20 = (.pointer (some ⟨y.ob, 0, none⟩)) := q20 rfl; subst eB; obtain ⟨tm, df⟩ := a9; (obtain ⟨ys, zs, hys, hzs, htm, rfl⟩ := frame_two 19 2 84 16 21 105 121 rfl rfl rfl (by kernel_rfl) (Nat.le_of_ble_eq_true rfl) ⟨hsz, hdf, hold⟩); obtain ⟨x0, x1, rfl⟩ := rowQ2 ys hys; obtain ⟨z0, z1, z2, z3, z4, z5, z6, z7, z8, z9, z10, z11, z12, z13, z14, z15, rfl⟩ := rowQ16 zs hzs; simp only [List.take_succ_cons, List.take_zero, List.drop_succ_cons, List.drop_zero, List.cons_append, List.nil_append] at htm; subst htm; obtain rfl : x0 = _ := someInjM t19; obtain rfl : x1 = _ := someInjM t20; have HOx : Hid (wx.heap[y.ob]? = some (.cells #[.int .i64 C2, .int .i64 D2] 30 (0, 0))) := ho; have HBx : Hid (Below w.heap.size w wx) := below_join HX9.out.1 hbX; have HFx : Hid (wx.heap[w8.heap.size]? = some (.cells #[.int .i64 C1, .int .i64 D1] 30 (0, 0))) := below_keep hbX HF9.out; clear hys hzs hold hgot hall hSt hsz hdf t19 q19 t20 q20 hS e16 e18 ho hbX; obtain ⟨o0, o1, o2, o3⟩ := blk2 HOx.out; have ol := lt_of_block HOx.out; obtain ⟨p0, p1, p2, p3⟩ := blk2 HFx.out; have pl := lt_of_block HFx.out; by_cases hc2 : C2 = 0
        · obtain ⟨hc1, hbb⟩ := HV3.out hc2
          subst hc2 hc1 hbb; go_wp2_with fail; go_ret; (exact ⟨ret_bool (by simp), HBx.out⟩)
        · have hcB : (C2 != 0) = true := by simpa using hc2
          go_wp2_with fail; go_ret; exact ⟨rfl, HBx.out⟩
theorem puts_textM (s : StD) (x : Ex) (nm : ByteArray) (y : Wd) (names : List (List UInt8)) (vals : List Int) (v u yv nv xv : Value) (w : World) (hS : StR w s v) (hE : ERp w x u) (hn : nm.size ≤ maxLen) (hY : WRp w y yv) (hN : SL w nv names) (hlen : ∀ t ∈ names, t.length ≤ maxLen) (hV : IL w xv vals) :
    Calls Tryz.prog 6 #[v, u, .string nm, yv, nv, xv] w fun e w' => e = .returned (.bool true) ∧ Below w.heap.size w w' := puts_lawM s x nm y names vals v u yv nv xv w hS hE hn hY hN hlen hV
end Go.Proofs.YtpiaeapgjljjhaaGreat
