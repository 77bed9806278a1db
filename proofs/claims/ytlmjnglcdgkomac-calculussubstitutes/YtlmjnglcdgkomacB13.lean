/- Texts of one proof, one behind the other: Parts1, Parts2. -/
import Derived.Test.YtlmjnglcdgkomacB11
import Derived.Test.YtlmjnglcdgkomacB09
import Derived.Test.YtlmjnglcdgkomacB10
import Derived.Deep.RegionLaw
import Derived.Shelf.Sort.Plain
import Derived.Shelf.Slices.CompactS
import Derived.Shelf.Slices.In.SortNone
import Derived.Test.YtlmjnglcdgkomacProg
import Derived.Sort.OwnSorted
import Derived.Test.YtlmjnglcdgkomacB08
/- Walks: lists of texts and of formulas, as the yardstick compares them. -/
namespace Go.Proofs.Ytlmjnglcdgkomac
open Go.RowKit

/-- A list of formulas in memory. -/
def FL (w : World) (v : Value) (fs : List Fm) : Prop := ∃ ad cap, v = .slice ad fs.length cap ∧ fs.length ≤ cap ∧ cap ≤ maxLen ∧ (fs ≠ [] → ∃ b off, ad = some ⟨b, off, none⟩ ∧ Reps w (fun _ => True) b off fs)
theorem FL.up {w w' : World} {v : Value} {fs : List Fm} (h : FL w v fs) (hb : Below w.heap.size w w') : FL w' v fs := by
  obtain ⟨ad, cap, h1, h2, h3, h4⟩ := h; (refine ⟨ad, cap, h1, h2, h3, fun hne => ?_⟩); obtain ⟨b, off, h5, h6⟩ := h4 hne; exact ⟨b, off, h5, h6.up hb⟩

/-- Is a formula in a list? -/
def hasF (f : Fm) (fs : List Fm) : Bool := fs.any fun g => sameB g f

end Go.Proofs.Ytlmjnglcdgkomac
/- Walks: the program's own comparison of formulas. -/
namespace Go.Proofs.Ytlmjnglcdgkomac
open Go.RowKit

theorem sames_in (cap : Array Value) (w : World) : (callFunc 84 cap).run Try.prog w = .ok (.enter 84 cap) w := by
  simp [go_sem]

def SamesP (m : Nat) : Prop := ∀ (f g : Fm) (v u : Value) (w : World), f.size < m → Rep w (fun _ => True) f v → Rep w (fun _ => True) g u →
  Calls Try.prog 84 #[v, u] w fun e w' => e = .returned (.bool (sameB f g)) ∧ Below w.heap.size w w'

/-- EqualFunc with the comparison itself. -/
def EqualsP (m : Nat) : Prop := ∀ (fs gs : List Fm) (v u : Value) (w : World), Fm.sizes fs < m → FL w v fs → FL w u gs →
  Calls Try.prog 88 #[v, u, .func (.func 84) #[] #[]] w fun e w' => e = .returned (.bool (decide (fs.length = gs.length) && sameBs fs gs)) ∧ Below w.heap.size w w'

set_option maxHeartbeats 4000000 in
theorem equals_step (m : Nat) (ih : SamesP m) : EqualsP m := by
  intro fs gs v u w hm h h'; obtain ⟨ad, cap, rfl, h1, h2, h3⟩ := h; obtain ⟨ad', cap', rfl, h1', h2', h3'⟩ := h'; (have hlI : (fs.length : Int) ≤ 9223372036854775807 := by unfold maxLen at h2; omega); (have H3 : Hid (fs ≠ [] → ∃ b off, ad = some ⟨b, off, none⟩ ∧ Reps w (fun _ => True) b off fs) := h3); (have H4 : Hid (gs ≠ [] → ∃ b off, ad' = some ⟨b, off, none⟩ ∧ Reps w (fun _ => True) b off gs) := h3'); clear h3 h3'; by_cases hl : fs.length = gs.length
  · rw [decide_eq_true hl, Bool.true_and]
    have HL : Hid (fs.length = gs.length) := hl; generalize hgl : gs.length = gl at *; subst hl
    go_enter Try.func88, Try.ntmps88
    go_wp2_with fail
    go_loopg [17] fs.length (fun g c wr => ∃ i, i ≤ fs.length ∧ g = fs.length - i ∧ c = .int .i64 (i : Nat) ∧ Below w.heap.size w wr ∧ Hid (sameBs (fs.drop i) (gs.drop i) = sameBs fs gs))
    case atStart => exact ⟨0, by omega, by omega, rfl, Below.refl _ _, by show _ = _; simp⟩
    case round =>
      obtain ⟨i, hi, hg, rfl, hbr, HN⟩ := hrel; have HG : Hid (gk = fs.length - i) := hg; clear hg; by_cases hlt : i < fs.length
      · obtain ⟨⟨k2, n2, ks2⟩, hki⟩ : ∃ f, fs[i]? = some f := ⟨_, List.getElem?_eq_getElem hlt⟩
        (obtain ⟨⟨k3, n3, ks3⟩, hki'⟩ : ∃ f, gs[i]? = some f := ⟨_, List.getElem?_eq_getElem (by omega)⟩); (obtain ⟨b, off, rfl, hrs⟩ := H3.out (fun e => by rw [e] at hlt; simp at hlt)); (obtain ⟨b', off', rfl, hrs'⟩ := H4.out (fun e => by rw [e] at hgl; simp at hgl; omega)); obtain ⟨sl2, cap2, g0, g1, g2, hrep2⟩ := (hrs.up hbr).at i k2 n2 ks2 hki; obtain ⟨sl3, cap3, p0, p1, p2, hrep3⟩ := (hrs'.up hbr).at i k3 n3 ks3 hki'; (have hltI : (i : Int) < (fs.length : Int) := by omega); (have hlc : (i : Int) < (cap : Int) := by omega); (have hlc' : (i : Int) < (cap' : Int) := by omega); have zz := hbr.size; (have hsz : (Fm.mk k2 n2 ks2).size < m := by have := sizes_get hki; omega); (have hsm := fun v u w h1 h2 => ih (.mk k2 n2 ks2) (.mk k3 n3 ks3) v u w hsz h1 h2); have hds := HN.out; rw [sameBs_drop hki hki'] at hds; generalize hbb : sameB (.mk k2 n2 ks2) (.mk k3 n3 ks3) = bb at hsm hds; have HS : Hid (∀ v u w, _ → _ → Calls Try.prog 84 #[v, u] w _) := hsm; have HD : Hid (_ = sameBs fs gs) := hds; have zb := lt_of_cell g0; have zb' := lt_of_cell p0; simp only at zb zb'; have hcf := sames_in; clear hki hki' hrs hrs' H3 H4 hsm hds hbb HN; go_wp2_with fail; refine (HS.out _ _ _ ((hrep2.more _).more _) ((hrep3.more _).more _)).mono ?_; rintro e w1 ⟨rfl, hb1⟩; have B1 := below_join (below_more (below_more hbr _) _) hb1
        cases bb
        · have HF : Hid (sameBs fs gs = false) := by
            have := HD.out; rw [Bool.false_and] at this; exact this.symm
          clear HD; go_wp2_with fail; go_ret; (exact ⟨by rw [HF.out]; rfl, B1⟩)
        · have HT : Hid (sameBs (fs.drop (i + 1)) (gs.drop (i + 1)) = sameBs fs gs) := by
            have := HD.out; rw [Bool.true_and] at this; exact this
          clear HD; go_wp2_with fail
          go_roundg (fs.length - (i + 1))
          case measure => have := HG.out; omega
          case rel => exact ⟨i + 1, by omega, rfl, by go_num, B1, HT⟩
      · have HT : Hid (sameBs fs gs = true) := by
          have := HN.out; (rw [List.drop_of_length_le (by omega), sameBs] at this); exact this.symm
        (have hge : ¬ (i : Int) < (fs.length : Int) := by omega); clear H3 H4 HN; go_wp2_with fail; go_ret; (exact ⟨by rw [HT.out]; rfl, hbr⟩)
  · rw [decide_eq_false hl, Bool.false_and]
    (have hlJ : ((fs.length : Int) != (gs.length : Int)) = true := by simp; omega); clear H3 H4
    go_enter Try.func88, Try.ntmps88
    go_wp2_with fail; go_ret; exact ⟨rfl, Below.refl _ _⟩

theorem Rep.kids {w : World} {k : Int} {n : ByteArray} {ks : List Fm} {sl : Option Addr} {cap : Nat} (h : Rep w (fun _ => True) (.mk k n ks) (.agg #[.int .i64 k, .string n, .slice sl ks.length cap])) : FL w (.slice sl ks.length cap) ks := by
  obtain ⟨sl', cap', hv, -, h1, h2, h3⟩ := Rep.def.1 h; simp only [Value.agg.injEq, Array.mk.injEq, List.cons.injEq, Value.slice.injEq, true_and, and_true] at hv; obtain ⟨rfl, rfl⟩ := hv; (refine ⟨sl, cap, rfl, h1, h2, fun hne => ?_⟩); obtain ⟨b, off, hs, -, hr⟩ := h3 hne; exact ⟨b, off, hs, hr⟩

set_option maxHeartbeats 2000000 in
theorem sameP_step (m : Nat) (ih : EqualsP m) : SamesP (m + 1) := by
  intro f g v u w hm hrep hu; obtain ⟨k, n, ks⟩ := f; obtain ⟨k', n', ks'⟩ := g; obtain ⟨sl, cap, rfl⟩ := slice_shape hrep; obtain ⟨sl', cap', rfl⟩ := slice_shape hu; have hb0 : Below w.heap.size w ((w.alloc (.cells #[.int .i64 k, .string n, .slice sl ks.length cap] 24 (0, 0))).alloc (.cells #[.int .i64 k', .string n', .slice sl' ks'.length cap'] 24 (0, 0))) := below_more (below_more (Below.refl _ w) _) _; have hF := (hrep.up hb0).kids; have hG := (hu.up hb0).kids; (have hsz : Fm.sizes ks < m := by rw [Fm.size] at hm; omega); (have HQ : Hid (∀ wx, FL wx (.slice sl ks.length cap) ks → FL wx (.slice sl' ks'.length cap') ks' → Calls Try.prog 88 _ wx _) := fun wx h1 h2 => ih ks ks' _ _ wx hsz h1 h2); have HF : Hid (FL _ _ ks) := hF; have HG : Hid (FL _ _ ks') := hG; clear hF hG hrep hu; by_cases h1 : k = k'
  · subst h1
    by_cases h2 : n.data.toList = n'.data.toList
    · have h2' : n = n' := by apply ByteArray.ext; apply Array.ext'; exact h2
      subst h2'
      have hE : sameB (.mk k n ks) (.mk k n ks') = (decide (ks.length = ks'.length) && sameBs ks ks') := by
        rw [sameB]; simp only [Fm.kind, Fm.name, Fm.kids, decide_true, Bool.true_and]
        congr 1
      rw [hE]; clear hE h2; generalize (decide (ks.length = ks'.length) && sameBs ks ks') = bb at HQ ⊢
      go_enter Try.func84, Try.ntmps84
      go_wp2_with (first
        | (go_at_call 88
           refine (HQ.out _ HF.out HG.out).mono ?_; rintro e w1 ⟨rfl, hb1⟩
           have B1 := below_join hb0 hb1)
        | fail)
      go_ret; exact ⟨rfl, B1⟩
    · have hE : sameB (.mk k n ks) (.mk k n' ks') = false := by rw [sameB]; simp only [Fm.kind, Fm.name, h2, decide_false, Bool.and_false, Bool.false_and]
      rw [hE]; (have h3 : (n.toList == n'.toList) = false := by rw [ByteArray.toList_eq, ByteArray.toList_eq]; simpa using h2); clear hE h2 HF HG HQ
      go_enter Try.func84, Try.ntmps84
      go_wp2_with fail; go_ret; exact ⟨rfl, hb0⟩
  · have hE : sameB (.mk k n ks) (.mk k' n' ks') = false := by rw [sameB]; simp [Fm.kind, h1]
    rw [hE]; (have h1' : (k == k') = false := by simpa using h1); clear hE HF HG HQ
    go_enter Try.func84, Try.ntmps84
    go_wp2_with fail; go_ret; exact ⟨rfl, hb0⟩

theorem samesP_all : ∀ m, SamesP m
  | 0 => fun _ _ _ _ _ h => absurd h (Nat.not_lt_zero _)
  | m + 1 => sameP_step m (equals_step m (samesP_all m))

theorem sameP_any (f g : Fm) (v u : Value) (w : World) (hv : Rep w (fun _ => True) f v) (hu : Rep w (fun _ => True) g u) :
    Calls Try.prog 84 #[v, u] w fun e w' => e = .returned (.bool (sameB f g)) ∧ Below w.heap.size w w' :=
  samesP_all (f.size + 1) f g v u w (Nat.lt_succ_self _) hv hu

/-! Where a formula is in a list. -/
theorem sameB_sym (f g : Fm) : sameB f g = sameB g f := by
  rcases h : sameB f g with _ | _
  · rcases h' : sameB g f with _ | _
    · rfl
    · have := sameB_eq g f h'
      subst this; rw [h'] at h
      cases h
  · have := sameB_eq f g h
    subst this; rw [h]
def isF (n : Fm) (fs : List Fm) : Nat := fs.findIdx fun g => sameB g n
/-- The place of n in a list, or -1. -/
def atF (n : Fm) (fs : List Fm) : Int := if hasF n fs then (isF n fs : Nat) else -1
theorem place1_in (cap : Array Value) (w : World) : (callFunc 83 cap).run Try.prog w = .ok (.enter 83 cap) w := by
  simp [go_sem]

set_option maxHeartbeats 1000000 in
theorem place1_any (p n : Fm) (v u : Value) (nb : Nat) (c0 c1 c2 : Value) (w : World) (hv : Rep w (fun _ => True) p v) (hu : Rep w (fun _ => True) n u) (hue : u = .agg #[c0, c1, c2]) (h : w.heap[nb]? = some (.cells #[c0, c1, c2] 24 (0, 0))) :
    Calls Try.prog 83 #[v, .pointer (some ⟨nb, 0, none⟩)] w fun e w' => e = .returned (.bool (sameB p n)) ∧ Below w.heap.size w w' := by
  (have hs := fun v u w h1 h2 => sameP_any n p v u w h1 h2); rw [sameB_sym n p] at hs; generalize sameB p n = bb at hs ⊢; obtain ⟨k, m, ks⟩ := p; obtain ⟨sl, cap, rfl⟩ := slice_shape hv; obtain ⟨kg, ng, ksg⟩ := n; obtain ⟨slg, capg, hug⟩ := slice_shape hu; rw [hug] at hue; simp only [Value.agg.injEq, Array.mk.injEq, List.cons.injEq, and_true] at hue; obtain ⟨rfl, rfl, rfl⟩ := hue; subst hug; have HS : Hid (∀ v u w, _ → _ → Calls Try.prog 84 #[v, u] w _) := hs; have k1 := alloc_keep h (.cells #[.int .i64 k, .string m, .slice sl ks.length cap] 24 (0, 0)); obtain ⟨a1, a2, a3, -⟩ := blk3 k1; clear hs
  go_enter Try.func83, Try.ntmps83
  go_wp2_with (first
    | (go_at_call 84
       refine (HS.out _ _ _ (hu.more _) (hv.more _)).mono ?_; rintro e w1 ⟨rfl, hb1⟩
       have B1 := below_join (below_more (Below.refl _ w) _) hb1)
    | fail)
  go_ret; exact ⟨rfl, B1⟩

theorem findIdx_atF {n : Fm} {fs : List Fm} {i : Nat} {g : Fm} (h : hasF n (fs.take i) = false) (hg : fs[i]? = some g) (hp : sameB g n = true) : isF n fs = i := by
  have hi : i < fs.length := by
    rcases Nat.lt_or_ge i fs.length with h' | h'
    · exact h'
    · rw [List.getElem?_eq_none h'] at hg; cases hg
  unfold isF; (refine (List.findIdx_eq hi).2 ⟨?_, fun j hj => ?_⟩)
  · rw [List.getElem?_eq_getElem hi] at hg
    rw [Option.some.inj hg]; exact hp
  · unfold hasF at h
    (have := List.any_eq_false.1 h (fs[j]'(by omega)) (List.mem_take_iff_getElem.2 ⟨j, by omega, rfl⟩)); simpa using this

set_option maxHeartbeats 2000000 in
theorem index_any (fs : List Fm) (n : Fm) (v u : Value) (nb : Nat) (c0 c1 c2 : Value) (w : World) (hf : FL w v fs) (hu : Rep w (fun _ => True) n u) (hue : u = .agg #[c0, c1, c2]) (h : w.heap[nb]? = some (.cells #[c0, c1, c2] 24 (0, 0))) :
    Calls Try.prog 85 #[v, .func (.func 83) #[] #[.pointer (some ⟨nb, 0, none⟩)]] w fun e w' => e = .returned (.int .i64 (atF n fs)) ∧ Below w.heap.size w w' := by
  obtain ⟨ad, cap, rfl, h1, h2, h3⟩ := hf; (have hlI : (fs.length : Int) ≤ 9223372036854775807 := by unfold maxLen at h2; omega); (have H3 : Hid (fs ≠ [] → ∃ b off, ad = some ⟨b, off, none⟩ ∧ Reps w (fun _ => True) b off fs) := h3); (have HC : Hid (∀ (p : Fm) (v : Value) (wx : World), Below w.heap.size w wx → Rep wx (fun _ => True) p v → Calls Try.prog 83 (#[v] ++ #[.pointer (some ⟨nb, 0, none⟩)]) wx fun e w' => e = .returned (.bool (sameB p n)) ∧ Below wx.heap.size wx w') := fun p v wx hb hv => place1_any p n v u nb c0 c1 c2 wx hv (hu.up hb) hue (below_keep hb h)); (have hcf := fun (v : Value) (w : World) => place1_in (#[v] ++ #[.pointer (some ⟨nb, 0, none⟩)]) w); clear h3 hu hue h
  go_enter Try.func85, Try.ntmps85
  go_wp2_with fail
  go_loopg [8] fs.length (fun g c wr => ∃ i, i ≤ fs.length ∧ g = fs.length - i ∧ c = .int .i64 (i : Nat) ∧ Below w.heap.size w wr ∧ Hid (hasF n (fs.take i) = false))
  case atStart => exact ⟨0, by omega, by omega, rfl, Below.refl _ _, by show _ = _; rfl⟩
  case round =>
    obtain ⟨i, hi, hg, rfl, hbr, HN⟩ := hrel; have HG : Hid (gk = fs.length - i) := hg; clear hg; by_cases hlt : i < fs.length
    · obtain ⟨⟨k2, n2, ks2⟩, hki⟩ : ∃ f, fs[i]? = some f := ⟨_, List.getElem?_eq_getElem hlt⟩
      (obtain ⟨b, off, rfl, hrs⟩ := H3.out (fun e => by rw [e] at hlt; simp at hlt)); obtain ⟨sl2, cap2, g0, g1, g2, hrep2⟩ := (hrs.up hbr).at i k2 n2 ks2 hki; (have hltI : (i : Int) < (fs.length : Int) := by omega); (have hlc : (i : Int) < (cap : Int) := by omega)
      have hnx : hasF n (fs.take (i + 1)) = (hasF n (fs.take i) || sameB (.mk k2 n2 ks2) n) := by
        unfold hasF; rw [List.take_add_one, hki, List.any_append]
        simp
      have hin : sameB (.mk k2 n2 ks2) n = true → atF n fs = (i : Nat) := fun h => by
        unfold atF; rw [show hasF n fs = true from List.any_eq_true.2 ⟨_, List.mem_of_getElem? hki, h⟩, findIdx_atF HN.out hki h]; rfl
      have hcc := HC.out (.mk k2 n2 ks2) _ wr hbr hrep2; generalize hbb : sameB (.mk k2 n2 ks2) n = bb at hcc hnx hin
      have HX : Hid (hasF n (fs.take (i + 1)) = bb) := by
        show _ = _; rw [hnx, HN.out, Bool.false_or]
      have HI : Hid (bb = true → atF n fs = (i : Nat)) := hin; have HCC : Hid (Calls Try.prog 83 _ wr _) := hcc; clear hki hrs H3 hcc hnx hin hbb HC hrep2; go_wp2_with fail; refine HCC.out.mono ?_; rintro e w1 ⟨rfl, hb1⟩; have B1 := below_join hbr hb1
      cases bb
      · go_wp2_with fail
        go_roundg (fs.length - (i + 1))
        case measure => have := HG.out; omega
        case rel => exact ⟨i + 1, by omega, rfl, by go_num, B1, HX⟩
      · have HT : Hid (atF n fs = (i : Nat)) := HI.out rfl
        clear HI HX; go_wp2_with fail; go_ret; (exact ⟨by rw [HT.out]; rfl, B1⟩)
    · have HT : Hid (atF n fs = -1) := by
        have := HN.out; (rw [List.take_of_length_le (by omega)] at this); show _ = _; unfold atF; rw [this]; rfl
      (have hge : ¬ (i : Int) < (fs.length : Int) := by omega); clear H3 HN HC; go_wp2_with fail; go_ret; (exact ⟨by rw [HT.out]; rfl, hbr⟩)

set_option maxHeartbeats 1000000 in
theorem place_any (fs : List Fm) (n : Fm) (v u : Value) (w : World) (hf : FL w v fs) (hu : Rep w (fun _ => True) n u) :
    Calls Try.prog 75 #[v, u] w fun e w' => e = .returned (.int .i64 (atF n fs)) ∧ Below w.heap.size w w' := by
  obtain ⟨k, nn, ks⟩ := n; obtain ⟨sl, cap, rfl⟩ := slice_shape hu; have B0 := below_more (Below.refl _ w) (.cells #[.int .i64 k, .string nn, .slice sl ks.length cap] 24 (0, 0)); have hx := index_any fs (.mk k nn ks) _ _ w.heap.size _ _ _ (w.alloc (.cells #[.int .i64 k, .string nn, .slice sl ks.length cap] 24 (0, 0))) (hf.up B0) (hu.up B0) rfl (blk_new _ _); have HX : Hid (Calls Try.prog 85 _ _ _) := hx; (have hmf : ∀ (fn : Fn) (first cap : Array Value) (w : World), (Instr.makeFunc fn first cap).run Try.prog w = .ok (.func fn first cap) w := fun _ _ _ _ => rfl); obtain ⟨ad, cp, rfl, -⟩ := hf; clear hx hu
  go_enter Try.func75, Try.ntmps75
  go_wp2_with (first
    | (go_at_call 85
       refine HX.out.mono ?_; rintro e w1 ⟨rfl, hb1⟩
       have B1 := below_join B0 hb1)
    | fail)
  go_ret; exact ⟨rfl, B1⟩

end Go.Proofs.Ytlmjnglcdgkomac
