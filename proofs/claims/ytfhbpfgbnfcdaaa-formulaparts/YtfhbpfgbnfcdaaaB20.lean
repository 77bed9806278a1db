/- Texts of one proof, one behind the other: Parts2, Parts3. -/
import Derived.Test.YtfhbpfgbnfcdaaaB17
import Derived.Test.YtfhbpfgbnfcdaaaB18
/- Walks: the program's own comparison of formulas. -/
namespace Go.Proofs.Ytfhbpfgbnfcdaaa
open Go.RowKit

theorem sames_in (cap : Array Value) (w : World) : (callFunc 122 cap).run Try.prog w = .ok (.enter 122 cap) w := by
  simp [go_sem]

def SamesP (m : Nat) : Prop := ∀ (f g : Fm) (v u : Value) (w : World), f.size < m → Rep w (fun _ => True) f v → Rep w (fun _ => True) g u →
  Calls Try.prog 122 #[v, u] w fun e w' => e = .returned (.bool (sameB f g)) ∧ Below w.heap.size w w'

/-- EqualFunc with the comparison itself. -/
def EqualsP (m : Nat) : Prop := ∀ (fs gs : List Fm) (v u : Value) (w : World), Fm.sizes fs < m → FL w v fs → FL w u gs →
  Calls Try.prog 139 #[v, u, .func (.func 122) #[] #[]] w fun e w' => e = .returned (.bool (decide (fs.length = gs.length) && sameBs fs gs)) ∧ Below w.heap.size w w'

set_option maxHeartbeats 4000000 in
theorem equals_step (m : Nat) (ih : SamesP m) : EqualsP m := by
  intro fs gs v u w hm h h'; obtain ⟨ad, cap, rfl, h1, h2, h3⟩ := h; obtain ⟨ad', cap', rfl, h1', h2', h3'⟩ := h'; (have hlI : (fs.length : Int) ≤ 9223372036854775807 := by unfold maxLen at h2; omega); (have H3 : Hid (fs ≠ [] → ∃ b off, ad = some ⟨b, off, none⟩ ∧ Reps w (fun _ => True) b off fs) := h3); (have H4 : Hid (gs ≠ [] → ∃ b off, ad' = some ⟨b, off, none⟩ ∧ Reps w (fun _ => True) b off gs) := h3'); clear h3 h3'; by_cases hl : fs.length = gs.length
  · rw [decide_eq_true hl, Bool.true_and]
    have HL : Hid (fs.length = gs.length) := hl; generalize hgl : gs.length = gl at *; subst hl
    go_enter Try.func139, Try.ntmps139
    go_wp2_with fail
    go_loopg [17] fs.length (fun g c wr => ∃ i, i ≤ fs.length ∧ g = fs.length - i ∧ c = .int .i64 (i : Nat) ∧ Below w.heap.size w wr ∧ Hid (sameBs (fs.drop i) (gs.drop i) = sameBs fs gs))
    case atStart => exact ⟨0, by omega, by omega, rfl, Below.refl _ _, by show _ = _; simp⟩
    case round =>
      obtain ⟨i, hi, hg, rfl, hbr, HN⟩ := hrel; have HG : Hid (gk = fs.length - i) := hg; clear hg; by_cases hlt : i < fs.length
      · obtain ⟨⟨k2, n2, ks2⟩, hki⟩ : ∃ f, fs[i]? = some f := ⟨_, List.getElem?_eq_getElem hlt⟩
        (obtain ⟨⟨k3, n3, ks3⟩, hki'⟩ : ∃ f, gs[i]? = some f := ⟨_, List.getElem?_eq_getElem (by omega)⟩); (obtain ⟨b, off, rfl, hrs⟩ := H3.out (fun e => by rw [e] at hlt; simp at hlt)); (obtain ⟨b', off', rfl, hrs'⟩ := H4.out (fun e => by rw [e] at hgl; simp at hgl; omega)); obtain ⟨sl2, cap2, g0, g1, g2, hrep2⟩ := (hrs.up hbr).at i k2 n2 ks2 hki; obtain ⟨sl3, cap3, p0, p1, p2, hrep3⟩ := (hrs'.up hbr).at i k3 n3 ks3 hki'; (have hltI : (i : Int) < (fs.length : Int) := by omega); (have hlc : (i : Int) < (cap : Int) := by omega); (have hlc' : (i : Int) < (cap' : Int) := by omega); have zz := hbr.size; (have hsz : (Fm.mk k2 n2 ks2).size < m := by have := sizes_get hki; omega); (have hsm := fun v u w h1 h2 => ih (.mk k2 n2 ks2) (.mk k3 n3 ks3) v u w hsz h1 h2); have hds := HN.out; rw [sameBs_drop hki hki'] at hds; generalize hbb : sameB (.mk k2 n2 ks2) (.mk k3 n3 ks3) = bb at hsm hds; have HS : Hid (∀ v u w, _ → _ → Calls Try.prog 122 #[v, u] w _) := hsm; have HD : Hid (_ = sameBs fs gs) := hds; have zb := lt_of_cell g0; have zb' := lt_of_cell p0; simp only at zb zb'; have hcf := sames_in; clear hki hki' hrs hrs' H3 H4 hsm hds hbb HN; go_wp2_with fail; refine (HS.out _ _ _ ((hrep2.more _).more _) ((hrep3.more _).more _)).mono ?_; rintro e w1 ⟨rfl, hb1⟩; have B1 := below_join (below_more (below_more hbr _) _) hb1
        cases bb
        · have HF : Hid (sameBs fs gs = false) := by
            have := HD.out; rw [Bool.false_and] at this; exact this.symm
          clear HD; go_wp2_with fail; go_ret; (exact ⟨by rw [HF.out]; rfl, B1⟩)
        · have HT : Hid (sameBs (fs.drop (i + 1)) (gs.drop (i + 1)) = sameBs fs gs) := by
            have := HD.out; rw [Bool.true_and] at this; exact this
          clear HD; go_wp2_with fail
          go_roundg (fs.length - (i + 1))
          case measure => have := HG.out; omega
          case rel => exact ⟨i + 1, by omega, rfl, by go_num, B1, HT⟩
      · have HT : Hid (sameBs fs gs = true) := by
          have := HN.out; (rw [List.drop_of_length_le (by omega), sameBs] at this); exact this.symm
        (have hge : ¬ (i : Int) < (fs.length : Int) := by omega); clear H3 H4 HN; go_wp2_with fail; go_ret; (exact ⟨by rw [HT.out]; rfl, hbr⟩)
  · rw [decide_eq_false hl, Bool.false_and]
    (have hlJ : ((fs.length : Int) != (gs.length : Int)) = true := by simp; omega); clear H3 H4
    go_enter Try.func139, Try.ntmps139
    go_wp2_with fail; go_ret; exact ⟨rfl, Below.refl _ _⟩

theorem Rep.kids {w : World} {k : Int} {n : ByteArray} {ks : List Fm} {sl : Option Addr} {cap : Nat} (h : Rep w (fun _ => True) (.mk k n ks) (.agg #[.int .i64 k, .string n, .slice sl ks.length cap])) : FL w (.slice sl ks.length cap) ks := by
  obtain ⟨sl', cap', hv, -, h1, h2, h3⟩ := Rep.def.1 h; simp only [Value.agg.injEq, Array.mk.injEq, List.cons.injEq, Value.slice.injEq, true_and, and_true] at hv; obtain ⟨rfl, rfl⟩ := hv; (refine ⟨sl, cap, rfl, h1, h2, fun hne => ?_⟩); obtain ⟨b, off, hs, -, hr⟩ := h3 hne; exact ⟨b, off, hs, hr⟩

set_option maxHeartbeats 2000000 in
theorem sameP_step (m : Nat) (ih : EqualsP m) : SamesP (m + 1) := by
  intro f g v u w hm hrep hu; obtain ⟨k, n, ks⟩ := f; obtain ⟨k', n', ks'⟩ := g; obtain ⟨sl, cap, rfl⟩ := slice_shape hrep; obtain ⟨sl', cap', rfl⟩ := slice_shape hu; have hb0 : Below w.heap.size w ((w.alloc (.cells #[.int .i64 k, .string n, .slice sl ks.length cap] 24 (0, 0))).alloc (.cells #[.int .i64 k', .string n', .slice sl' ks'.length cap'] 24 (0, 0))) := below_more (below_more (Below.refl _ w) _) _; have hF := (hrep.up hb0).kids; have hG := (hu.up hb0).kids; (have hsz : Fm.sizes ks < m := by rw [Fm.size] at hm; omega); (have HQ : Hid (∀ wx, FL wx (.slice sl ks.length cap) ks → FL wx (.slice sl' ks'.length cap') ks' → Calls Try.prog 139 _ wx _) := fun wx h1 h2 => ih ks ks' _ _ wx hsz h1 h2); have HF : Hid (FL _ _ ks) := hF; have HG : Hid (FL _ _ ks') := hG; clear hF hG hrep hu; by_cases h1 : k = k'
  · subst h1
    by_cases h2 : n.data.toList = n'.data.toList
    · have h2' : n = n' := by apply ByteArray.ext; apply Array.ext'; exact h2
      subst h2'
      have hE : sameB (.mk k n ks) (.mk k n ks') = (decide (ks.length = ks'.length) && sameBs ks ks') := by
        rw [sameB]; simp only [Fm.kind, Fm.name, Fm.kids, decide_true, Bool.true_and]
        congr 1
      rw [hE]; clear hE h2; generalize (decide (ks.length = ks'.length) && sameBs ks ks') = bb at HQ ⊢
      go_enter Try.func122, Try.ntmps122
      go_wp2_with (first
        | (go_at_call 139
           refine (HQ.out _ HF.out HG.out).mono ?_; rintro e w1 ⟨rfl, hb1⟩
           have B1 := below_join hb0 hb1)
        | fail)
      go_ret; exact ⟨rfl, B1⟩
    · have hE : sameB (.mk k n ks) (.mk k n' ks') = false := by rw [sameB]; simp only [Fm.kind, Fm.name, h2, decide_false, Bool.and_false, Bool.false_and]
      rw [hE]; (have h3 : (n.toList == n'.toList) = false := by rw [ByteArray.toList_eq, ByteArray.toList_eq]; simpa using h2); clear hE h2 HF HG HQ
      go_enter Try.func122, Try.ntmps122
      go_wp2_with fail; go_ret; exact ⟨rfl, hb0⟩
  · have hE : sameB (.mk k n ks) (.mk k' n' ks') = false := by rw [sameB]; simp [Fm.kind, h1]
    rw [hE]; (have h1' : (k == k') = false := by simpa using h1); clear hE HF HG HQ
    go_enter Try.func122, Try.ntmps122
    go_wp2_with fail; go_ret; exact ⟨rfl, hb0⟩

theorem samesP_all : ∀ m, SamesP m
  | 0 => fun _ _ _ _ _ h => absurd h (Nat.not_lt_zero _)
  | m + 1 => sameP_step m (equals_step m (samesP_all m))

theorem sameP_any (f g : Fm) (v u : Value) (w : World) (hv : Rep w (fun _ => True) f v) (hu : Rep w (fun _ => True) g u) :
    Calls Try.prog 122 #[v, u] w fun e w' => e = .returned (.bool (sameB f g)) ∧ Below w.heap.size w w' :=
  samesP_all (f.size + 1) f g v u w (Nat.lt_succ_self _) hv hu

/-! Where a formula is in a list. -/
theorem sameB_sym (f g : Fm) : sameB f g = sameB g f := by
  rcases h : sameB f g with _ | _
  · rcases h' : sameB g f with _ | _
    · rfl
    · have := sameB_eq g f h'
      subst this; rw [h'] at h
      cases h
  · have := sameB_eq f g h
    subst this; rw [h]
def isF (n : Fm) (fs : List Fm) : Nat := fs.findIdx fun g => sameB g n
/-- The place of n in a list, or -1. -/
def atF (n : Fm) (fs : List Fm) : Int := if hasF n fs then (isF n fs : Nat) else -1
theorem atF_has (n : Fm) (fs : List Fm) : decide (0 ≤ atF n fs) = hasF n fs := by
  unfold atF
  cases hasF n fs
  · rfl
  · simp

theorem place1_in (cap : Array Value) (w : World) : (callFunc 121 cap).run Try.prog w = .ok (.enter 121 cap) w := by
  simp [go_sem]

set_option maxHeartbeats 1000000 in
theorem place1_any (p n : Fm) (v u : Value) (nb : Nat) (c0 c1 c2 : Value) (w : World) (hv : Rep w (fun _ => True) p v) (hu : Rep w (fun _ => True) n u) (hue : u = .agg #[c0, c1, c2]) (h : w.heap[nb]? = some (.cells #[c0, c1, c2] 24 (0, 0))) :
    Calls Try.prog 121 #[v, .pointer (some ⟨nb, 0, none⟩)] w fun e w' => e = .returned (.bool (sameB p n)) ∧ Below w.heap.size w w' := by
  (have hs := fun v u w h1 h2 => sameP_any n p v u w h1 h2); rw [sameB_sym n p] at hs; generalize sameB p n = bb at hs ⊢; obtain ⟨k, m, ks⟩ := p; obtain ⟨sl, cap, rfl⟩ := slice_shape hv; obtain ⟨kg, ng, ksg⟩ := n; obtain ⟨slg, capg, hug⟩ := slice_shape hu; rw [hug] at hue; simp only [Value.agg.injEq, Array.mk.injEq, List.cons.injEq, and_true] at hue; obtain ⟨rfl, rfl, rfl⟩ := hue; subst hug; have HS : Hid (∀ v u w, _ → _ → Calls Try.prog 122 #[v, u] w _) := hs; have k1 := alloc_keep h (.cells #[.int .i64 k, .string m, .slice sl ks.length cap] 24 (0, 0)); obtain ⟨a1, a2, a3, -⟩ := blk3 k1; clear hs
  go_enter Try.func121, Try.ntmps121
  go_wp2_with (first
    | (go_at_call 122
       refine (HS.out _ _ _ (hu.more _) (hv.more _)).mono ?_; rintro e w1 ⟨rfl, hb1⟩
       have B1 := below_join (below_more (Below.refl _ w) _) hb1)
    | fail)
  go_ret; exact ⟨rfl, B1⟩

theorem findIdx_atF {n : Fm} {fs : List Fm} {i : Nat} {g : Fm} (h : hasF n (fs.take i) = false) (hg : fs[i]? = some g) (hp : sameB g n = true) : isF n fs = i := by
  have hi : i < fs.length := by
    rcases Nat.lt_or_ge i fs.length with h' | h'
    · exact h'
    · rw [List.getElem?_eq_none h'] at hg; cases hg
  unfold isF; (refine (List.findIdx_eq hi).2 ⟨?_, fun j hj => ?_⟩)
  · rw [List.getElem?_eq_getElem hi] at hg
    rw [Option.some.inj hg]; exact hp
  · unfold hasF at h
    (have := List.any_eq_false.1 h (fs[j]'(by omega)) (List.mem_take_iff_getElem.2 ⟨j, by omega, rfl⟩)); simpa using this

set_option maxHeartbeats 2000000 in
theorem index_any (fs : List Fm) (n : Fm) (v u : Value) (nb : Nat) (c0 c1 c2 : Value) (w : World) (hf : FL w v fs) (hu : Rep w (fun _ => True) n u) (hue : u = .agg #[c0, c1, c2]) (h : w.heap[nb]? = some (.cells #[c0, c1, c2] 24 (0, 0))) :
    Calls Try.prog 123 #[v, .func (.func 121) #[] #[.pointer (some ⟨nb, 0, none⟩)]] w fun e w' => e = .returned (.int .i64 (atF n fs)) ∧ Below w.heap.size w w' := by
  obtain ⟨ad, cap, rfl, h1, h2, h3⟩ := hf; (have hlI : (fs.length : Int) ≤ 9223372036854775807 := by unfold maxLen at h2; omega); (have H3 : Hid (fs ≠ [] → ∃ b off, ad = some ⟨b, off, none⟩ ∧ Reps w (fun _ => True) b off fs) := h3); (have HC : Hid (∀ (p : Fm) (v : Value) (wx : World), Below w.heap.size w wx → Rep wx (fun _ => True) p v → Calls Try.prog 121 (#[v] ++ #[.pointer (some ⟨nb, 0, none⟩)]) wx fun e w' => e = .returned (.bool (sameB p n)) ∧ Below wx.heap.size wx w') := fun p v wx hb hv => place1_any p n v u nb c0 c1 c2 wx hv (hu.up hb) hue (below_keep hb h)); (have hcf := fun (v : Value) (w : World) => place1_in (#[v] ++ #[.pointer (some ⟨nb, 0, none⟩)]) w); clear h3 hu hue h
  go_enter Try.func123, Try.ntmps123
  go_wp2_with fail
  go_loopg [8] fs.length (fun g c wr => ∃ i, i ≤ fs.length ∧ g = fs.length - i ∧ c = .int .i64 (i : Nat) ∧ Below w.heap.size w wr ∧ Hid (hasF n (fs.take i) = false))
  case atStart => exact ⟨0, by omega, by omega, rfl, Below.refl _ _, by show _ = _; rfl⟩
  case round =>
    obtain ⟨i, hi, hg, rfl, hbr, HN⟩ := hrel; have HG : Hid (gk = fs.length - i) := hg; clear hg; by_cases hlt : i < fs.length
    · obtain ⟨⟨k2, n2, ks2⟩, hki⟩ : ∃ f, fs[i]? = some f := ⟨_, List.getElem?_eq_getElem hlt⟩
      (obtain ⟨b, off, rfl, hrs⟩ := H3.out (fun e => by rw [e] at hlt; simp at hlt)); obtain ⟨sl2, cap2, g0, g1, g2, hrep2⟩ := (hrs.up hbr).at i k2 n2 ks2 hki; (have hltI : (i : Int) < (fs.length : Int) := by omega); (have hlc : (i : Int) < (cap : Int) := by omega)
      have hnx : hasF n (fs.take (i + 1)) = (hasF n (fs.take i) || sameB (.mk k2 n2 ks2) n) := by
        unfold hasF; rw [List.take_add_one, hki, List.any_append]
        simp
      have hin : sameB (.mk k2 n2 ks2) n = true → atF n fs = (i : Nat) := fun h => by
        unfold atF; rw [show hasF n fs = true from List.any_eq_true.2 ⟨_, List.mem_of_getElem? hki, h⟩, findIdx_atF HN.out hki h]; rfl
      have hcc := HC.out (.mk k2 n2 ks2) _ wr hbr hrep2; generalize hbb : sameB (.mk k2 n2 ks2) n = bb at hcc hnx hin
      have HX : Hid (hasF n (fs.take (i + 1)) = bb) := by
        show _ = _; rw [hnx, HN.out, Bool.false_or]
      have HI : Hid (bb = true → atF n fs = (i : Nat)) := hin; have HCC : Hid (Calls Try.prog 121 _ wr _) := hcc; clear hki hrs H3 hcc hnx hin hbb HC hrep2; go_wp2_with fail; refine HCC.out.mono ?_; rintro e w1 ⟨rfl, hb1⟩; have B1 := below_join hbr hb1
      cases bb
      · go_wp2_with fail
        go_roundg (fs.length - (i + 1))
        case measure => have := HG.out; omega
        case rel => exact ⟨i + 1, by omega, rfl, by go_num, B1, HX⟩
      · have HT : Hid (atF n fs = (i : Nat)) := HI.out rfl
        clear HI HX; go_wp2_with fail; go_ret; (exact ⟨by rw [HT.out]; rfl, B1⟩)
    · have HT : Hid (atF n fs = -1) := by
        have := HN.out; (rw [List.take_of_length_le (by omega)] at this); show _ = _; unfold atF; rw [this]; rfl
      (have hge : ¬ (i : Int) < (fs.length : Int) := by omega); clear H3 HN HC; go_wp2_with fail; go_ret; (exact ⟨by rw [HT.out]; rfl, hbr⟩)

set_option maxHeartbeats 1000000 in
theorem place_any (fs : List Fm) (n : Fm) (v u : Value) (w : World) (hf : FL w v fs) (hu : Rep w (fun _ => True) n u) :
    Calls Try.prog 89 #[v, u] w fun e w' => e = .returned (.int .i64 (atF n fs)) ∧ Below w.heap.size w w' := by
  obtain ⟨k, nn, ks⟩ := n; obtain ⟨sl, cap, rfl⟩ := slice_shape hu; have B0 := below_more (Below.refl _ w) (.cells #[.int .i64 k, .string nn, .slice sl ks.length cap] 24 (0, 0)); have hx := index_any fs (.mk k nn ks) _ _ w.heap.size _ _ _ (w.alloc (.cells #[.int .i64 k, .string nn, .slice sl ks.length cap] 24 (0, 0))) (hf.up B0) (hu.up B0) rfl (blk_new _ _); have HX : Hid (Calls Try.prog 123 _ _ _) := hx; (have hmf : ∀ (fn : Fn) (first cap : Array Value) (w : World), (Instr.makeFunc fn first cap).run Try.prog w = .ok (.func fn first cap) w := fun _ _ _ _ => rfl); obtain ⟨ad, cp, rfl, -⟩ := hf; clear hx hu
  go_enter Try.func89, Try.ntmps89
  go_wp2_with (first
    | (go_at_call 123
       refine HX.out.mono ?_; rintro e w1 ⟨rfl, hb1⟩
       have B1 := below_join B0 hb1)
    | fail)
  go_ret; exact ⟨rfl, B1⟩

set_option maxHeartbeats 1000000 in
theorem bagHas_any (fs : List Fm) (n : Fm) (v u : Value) (w : World) (hf : FL w v fs) (hu : Rep w (fun _ => True) n u) :
    Calls Try.prog 58 #[v, u] w fun e w' => e = .returned (.bool (hasF n fs)) ∧ Below w.heap.size w w' := by
  (have hx := fun v u w h1 h2 => place_any fs n v u w h1 h2); have hd := atF_has n fs; generalize atF n fs = j at hx hd; have HD : Hid (decide (0 ≤ j) = hasF n fs) := hd; obtain ⟨k, nn, ks⟩ := n; obtain ⟨sl, cap, rfl⟩ := slice_shape hu; (have HX : Hid (∀ v u w, FL w v fs → Rep w (fun _ => True) (.mk k nn ks) u → Calls Try.prog 89 #[v, u] w _) := hx); have HF : Hid (FL w v fs) := hf; obtain ⟨ad, cp, rfl, -⟩ := hf; clear hx hd
  go_enter Try.func58, Try.ntmps58
  go_wp2_with (first
    | (go_at_call 89
       refine (HX.out _ _ _ (HF.out.up (below_more (Below.refl _ w) _)) (hu.more _)).mono ?_; rintro e w1 ⟨rfl, hb1⟩
       have B1 := below_join (below_more (Below.refl _ w) _) hb1)
    | fail)
  go_ret; (exact ⟨by rw [← HD.out]; rfl, B1⟩)
end Go.Proofs.Ytfhbpfgbnfcdaaa
/- Walks: Parts. -/
namespace Go.Proofs.Ytfhbpfgbnfcdaaa
open Go.RowKit

/-- Each formula once, in the order in which they come first. -/
def partsL : List Fm → List Fm → List Fm
  | acc, [] => acc
  | acc, f :: fs => partsL (if hasF f acc = true then acc else acc ++ [f]) fs
theorem partsL_append : ∀ (a acc b : List Fm), partsL acc (a ++ b) = partsL (partsL acc a) b
  | [], _, _ => rfl
  | f :: a, acc, b => by rw [List.cons_append, partsL, partsL, partsL_append a _ b]
theorem partsL_len : ∀ (a acc : List Fm), (partsL acc a).length ≤ acc.length + a.length
  | [], _ => by simp [partsL]
  | f :: a, acc => by
    rw [partsL]
    split
    · have := partsL_len a acc
      simp only [List.length_cons]; omega
    · have := partsL_len a (acc ++ [f])
      simp only [List.length_append, List.length_singleton] at this; simp only [List.length_cons]; omega

/-- A last element is written. -/
theorem owns_put3 {w : World} {B g cp L : Nat} {cs : List Value} {z0 z1 z2 : Value} (h : w.ownsRow B 24 3 (.slice (some ⟨g, 0, none⟩) (L + 1) cp) (L + 1) (cs ++ [z0, z1, z2])) (hl : cs.length = L * 3) (a b c : Value) :
    (((w.setCell ⟨g, L * 3, none⟩ a).setCell ⟨g, L * 3 + 1, none⟩ b).setCell ⟨g, L * 3 + 2, none⟩ c).ownsRow B 24 3 (.slice (some ⟨g, 0, none⟩) (L + 1) cp) (L + 1) (cs ++ [a, b, c]) := by
  obtain ⟨h1, h2⟩ := h
  rcases h2 with ⟨hv, -⟩ | ⟨g', cap, cur, hv, hg, hh, h3, h4, h5, h6⟩
  · cases hv
  · cases hv
    (refine ⟨by simp [hl, Nat.add_mul], Or.inr ⟨g, cp, ((cur.setIfInBounds (L * 3) a).setIfInBounds (L * 3 + 1) b).setIfInBounds (L * 3 + 2) c, rfl, hg, ?_, h3, h4, by simp [h5], ?_⟩⟩)
    · simp [World.setCell, Array.getElem?_modify, hh]
    · apply List.ext_getElem?
      intro j; (have h6j : (cur.toList.take ((L + 1) * 3))[j]? = (cs ++ [z0, z1, z2])[j]? := by rw [h6]); (have hsz : (L + 1) * 3 ≤ cur.size := by rw [h5]; exact Nat.mul_le_mul_right _ h3); by_cases hj : j < (L + 1) * 3
      · rw [List.getElem?_take_of_lt hj] at h6j ⊢
        rw [Array.getElem?_toList] at h6j ⊢; by_cases hjl : j < cs.length
        · rw [List.getElem?_append_left hjl] at h6j ⊢
          (rw [Array.getElem?_setIfInBounds_ne (by omega), Array.getElem?_setIfInBounds_ne (by omega), Array.getElem?_setIfInBounds_ne (by omega), h6j])
        · rw [List.getElem?_append_right (by omega)]
          (have : j = L * 3 ∨ j = L * 3 + 1 ∨ j = L * 3 + 2 := by omega)
          rcases this with rfl | rfl | rfl
          · rw [Array.getElem?_setIfInBounds_ne (by omega), Array.getElem?_setIfInBounds_ne (by omega), Array.getElem?_setIfInBounds_self_of_lt (by omega), hl]
            simp
          · rw [Array.getElem?_setIfInBounds_ne (by omega), Array.getElem?_setIfInBounds_self_of_lt (by simp; omega), hl]
            simp
          · rw [Array.getElem?_setIfInBounds_self_of_lt (by simp; omega), hl]
            simp
      · rw [List.getElem?_take_eq_none (by omega), List.getElem?_eq_none (by simp; omega)]

def InvP (cb : Nat) (done : List Fm) (ob : Option Nat) (w : World) : Prop := ∃ ad cp, w.heap[cb]? = some (.cells #[.slice ad (partsL [] done).length cp] 22 (0, 0)) ∧ ob = (Value.slice ad (partsL [] done).length cp).ownBlock ∧ KO (cb + 1) w ad cp (partsL [] done)

theorem KO.list {B : Nat} {w : World} {ad : Option Addr} {cap : Nat} {fs : List Fm} (h : KO B w ad cap fs) : FL w (.slice ad fs.length cap) fs :=
  (h.rep 0 e0 (by decide)).all.kids

theorem parts1_in (cap : Array Value) (w : World) : (callFunc 57 cap).run Try.prog w = .ok (.enter 57 cap) w := by
  simp [go_sem]

set_option maxHeartbeats 2000000 in
theorem parts1_no (cb : Nat) (n : Fm) (v : Value) (w : World) (hrep : Rep w (fun _ => True) n v) (fs : List Fm) (hh : hasF n fs = true) (ad : Option Addr) (cp : Nat) (h1 : w.heap[cb]? = some (.cells #[.slice ad fs.length cp] 22 (0, 0))) (h2 : KO (cb + 1) w ad cp fs) :
    Calls Try.prog 57 #[v, .pointer (some ⟨cb, 0, none⟩)] w fun e w' => e = .returned (.tuple #[]) ∧ Below w.heap.size w w' := by
  obtain ⟨k, nn, ks⟩ := n; obtain ⟨sl, cap, rfl⟩ := slice_shape hrep; have B0 := below_more (Below.refl _ w) (.cells #[.int .i64 k, .string nn, .slice sl ks.length cap] 24 (0, 0)); have hx := bagHas_any fs (.mk k nn ks) _ _ (w.alloc (.cells #[.int .i64 k, .string nn, .slice sl ks.length cap] 24 (0, 0))) (h2.list.up B0) (hrep.up B0); rw [hh] at hx; have HX : Hid (Calls Try.prog 58 _ _ _) := hx; (have hmf : ∀ (fn : Fn) (first cap : Array Value) (w : World), (Instr.makeFunc fn first cap).run Try.prog w = .ok (.func fn first cap) w := fun _ _ _ _ => rfl); have k1 := alloc_keep h1 (.cells #[.int .i64 k, .string nn, .slice sl ks.length cap] 24 (0, 0)); obtain ⟨a0, a1⟩ := blk1 k1; clear hx hrep h2
  go_enter Try.func57, Try.ntmps57
  go_wp2_with (first
    | (go_at_call 58
       refine HX.out.mono ?_; rintro e w1 ⟨rfl, hb1⟩
       have B1 := below_join B0 hb1)
    | fail)
  go_end0
  exact ⟨rfl, B1⟩

/-- What the last element's cells are behind an append of a zero element. -/
theorem last3 {w : World} {B g cp L : Nat} {cs : List Value} {z0 z1 z2 : Value} (h : w.ownsRow B 24 3 (.slice (some ⟨g, 0, none⟩) (L + 1) cp) (L + 1) (cs ++ [z0, z1, z2])) (hl : cs.length = L * 3) :
    w.cell? ⟨g, L * 3, none⟩ = some z0 ∧ w.cell? ⟨g, L * 3 + 1, none⟩ = some z1 ∧ w.cell? ⟨g, L * 3 + 2, none⟩ = some z2 ∧ w.frozen? ⟨g, L * 3, none⟩ = false ∧ w.frozen? ⟨g, L * 3 + 1, none⟩ = false ∧ w.frozen? ⟨g, L * 3 + 2, none⟩ = false ∧ L + 1 ≤ cp := by
  (have c := fun j u hu => h.cells (g := g) rfl j u hu); (have c0 := c (L * 3) z0 (by rw [List.getElem?_append_right (by omega), hl]; simp)); (have c1 := c (L * 3 + 1) z1 (by rw [List.getElem?_append_right (by omega), hl]; simp)); (have c2 := c (L * 3 + 2) z2 (by rw [List.getElem?_append_right (by omega), hl]; simp)); rw [add_none, Nat.zero_add] at c0 c1 c2
  rcases h.2 with ⟨hv, -⟩ | ⟨g', cap, cur, hv, hg, hh, h3, h4, h5, h6⟩
  · cases hv
  · cases hv
    exact ⟨c0, c1, c2, blk_fz hh _, blk_fz hh _, blk_fz hh _, h3⟩

theorem parts_end {W1 w3 : World} {cb g3 cp cp3 : Nat} {ad : Option Addr} {fs : List Fm} {cs : List Value} {z0 z1 z2 : Value} {k : Int} {nn : ByteArray} {ks : List Fm} {sl : Option Addr} {cap : Nat}
    (r : W1.heap[cb]? = some (.cells #[.slice ad fs.length cp] 22 (0, 0)))
    (hown : W1.ownsRow (cb + 1) 24 3 (.slice ad fs.length cp) fs.length cs) (hlq : LQ (fun b => cb + 1 ≤ b ∧ (Value.slice ad fs.length cp).ownBlock ≠ some b) W1 cs fs)
    (hrep : Rep W1 (fun b => cb + 1 ≤ b ∧ (Value.slice ad fs.length cp).ownBlock ≠ some b) (.mk k nn ks) (.agg #[.int .i64 k, .string nn, .slice sl ks.length cap]))
    (hown3 : w3.ownsRow (cb + 1) 24 3 (.slice (some ⟨g3, 0, none⟩) (fs.length + 1) cp3) (fs.length + 1) (cs ++ [z0, z1, z2]))
    (hgrow : W1.grownBy w3 (Value.slice ad fs.length cp).ownBlock) (hat : (Value.slice ad fs.length cp).ownBlock = some g3 ∨ g3 = W1.heap.size) :
    ∀ F, F = ((((w3.setCell ⟨g3, fs.length * 3, none⟩ (.int .i64 k)).setCell ⟨g3, fs.length * 3 + 1, none⟩ (.string nn)).setCell ⟨g3, fs.length * 3 + 2, none⟩ (.slice sl ks.length cap)).setCell ⟨cb, 0, none⟩ (.slice (some ⟨g3, 0, none⟩) (fs.length + 1) cp3)) →
    F.heap[cb]? = some (.cells #[.slice (some ⟨g3, 0, none⟩) (fs.length + 1) cp3] 22 (0, 0)) ∧ KO (cb + 1) F (some ⟨g3, 0, none⟩) cp3 (fs ++ [.mk k nn ks]) ∧ Kept (fun b => b ≠ cb ∧ (Value.slice ad fs.length cp).ownBlock ≠ some b) W1 F ∧ ((Value.slice ad fs.length cp).ownBlock = some g3 ∨ W1.heap.size ≤ g3) := by
  intro F hF; have hl := hlq.len; have hcb : cb < W1.heap.size := lt_of_block r
  have hg3 : cb + 1 ≤ g3 := by
    rcases hat with h | h
    · exact (hown.lt g3 h).1
    · omega
  (have r3 : w3.heap[cb]? = some (.cells #[.slice ad fs.length cp] 22 (0, 0)) := (hgrow.block cb hcb (fun e => by have := (hown.lt cb e.symm).1; omega)).trans r)
  have far : ∀ b, b ≠ g3 → b ≠ cb → F.heap[b]? = w3.heap[b]? := fun b h1 h2 => by
    (rw [hF, Below.heap_setCell _ _ _ _ (by simpa using h2), Below.heap_setCell _ _ _ _ (by simpa using h1), Below.heap_setCell _ _ _ _ (by simpa using h1), Below.heap_setCell _ _ _ _ (by simpa using h1)])
  (have hsz : F.heap.size = w3.heap.size := by rw [hF]; simp [World.setCell]); have hs3 := hgrow.size; (refine ⟨?_, ⟨cs ++ [.int .i64 k, .string nn, .slice sl ks.length cap], ?_, ?_⟩, ⟨?_, ?_, ?_, by omega, fun b hb hok => ?_⟩, ?_⟩)
  · rw [hF]
    apply set1 (c0 := .slice ad fs.length cp); (rw [Below.heap_setCell _ _ _ _ (by simp; omega), Below.heap_setCell _ _ _ _ (by simp; omega), Below.heap_setCell _ _ _ _ (by simp; omega)]); exact r3
  · rw [List.length_append, hF]
    exact owns_set (owns_put3 hown3 hl _ _ _) _
  · have key : ∀ b, b < W1.heap.size → (cb + 1 ≤ b ∧ (Value.slice ad fs.length cp).ownBlock ≠ some b) → F.heap[b]? = W1.heap[b]? ∧ (cb + 1 ≤ b ∧ (Value.slice (some ⟨g3, 0, none⟩) (fs ++ [Fm.mk k nn ks]).length cp3).ownBlock ≠ some b) := fun b hb hok => by
      have hne : b ≠ g3 := by
        rintro rfl
        rcases hat with h | h
        · exact hok.2 h
        · omega
      (refine ⟨(far b hne (by omega)).trans (hgrow.block b hb (fun e => hok.2 e.symm)), hok.1, fun e => hne ?_⟩); (have : g3 = b := by simpa [Value.ownBlock] using e); exact this.symm
    exact (hlq.move key).append (ds := [.int .i64 k, .string nn, .slice sl ks.length cap]) (gs := [.mk k nn ks]) ⟨hrep.move key, trivial⟩
  · rw [hF]; exact hgrow.os
  · rw [hF]; exact hgrow.tape
  · rw [hF]; exact hgrow.output
  · have hne : b ≠ g3 := by
      rintro rfl
      rcases hat with h | h
      · exact hok.2 h
      · omega
    (exact (far b hne hok.1).trans (hgrow.block b hb (fun e => hok.2 e.symm)))
  · rcases hat with h | h
    · exact Or.inl h
    · exact Or.inr (by omega)

theorem set_comm (w : World) (p q : Addr) (u v : Value) (h : p.block ≠ q.block) : (w.setCell p u).setCell q v = (w.setCell q v).setCell p u := by
  unfold World.setCell; simp only
  congr 1
  apply Array.ext
  · simp
  · intro i h1 h2
    simp only [Array.getElem_modify]; by_cases e1 : q.block = i
    · by_cases e2 : p.block = i
      · exact absurd (e2.trans e1.symm) h
      · simp [e1, e2]
    · by_cases e2 : p.block = i
      · simp [e1, e2]
      · simp [e1, e2]

theorem two_orders (w : World) (cb g o : Nat) (h : ¬ g = cb) (s a b c : Value) : (((w.setCell ⟨cb, 0, none⟩ s).setCell ⟨g, o, none⟩ a).setCell ⟨g, o + 1, none⟩ b).setCell ⟨g, o + 2, none⟩ c = (((w.setCell ⟨g, o, none⟩ a).setCell ⟨g, o + 1, none⟩ b).setCell ⟨g, o + 2, none⟩ c).setCell ⟨cb, 0, none⟩ s := by
  (have h' : ∀ x : Nat, (⟨cb, 0, none⟩ : Addr).block ≠ (⟨g, x, none⟩ : Addr).block := fun x e => h e.symm); rw [set_comm w _ _ _ _ (h' o), set_comm _ _ _ _ _ (h' (o + 1)), set_comm _ _ _ _ _ (h' (o + 2))]

set_option maxRecDepth 30000 in
set_option maxHeartbeats 8000000 in
theorem parts1_yes (cb : Nat) (n : Fm) (hf : Fine n) (v : Value) (w : World) (hrep : Rep w (fun _ => True) n v) (fs : List Fm) (hL : fs.length ≤ 200) (hh : hasF n fs = false) (ad : Option Addr) (cp : Nat) (h1 : w.heap[cb]? = some (.cells #[.slice ad fs.length cp] 22 (0, 0))) (h2 : KO (cb + 1) w ad cp fs) :
    Calls Try.prog 57 #[v, .pointer (some ⟨cb, 0, none⟩)] w fun e w' => e = .returned (.tuple #[]) ∧ ∃ g cp', w'.heap[cb]? = some (.cells #[.slice (some ⟨g, 0, none⟩) (fs.length + 1) cp'] 22 (0, 0)) ∧ KO (cb + 1) w' (some ⟨g, 0, none⟩) cp' (fs ++ [n]) ∧ Kept (fun b => b ≠ cb ∧ (Value.slice ad fs.length cp).ownBlock ≠ some b) w w' ∧ ((Value.slice ad fs.length cp).ownBlock = some g ∨ w.heap.size ≤ g) := by
  (have hcp := fun v w h => copyOf_any n v w hf h); obtain ⟨k, nn, ks⟩ := n; obtain ⟨sl, cap, rfl⟩ := slice_shape hrep; have B0 := below_more (Below.refl _ w) (.cells #[.int .i64 k, .string nn, .slice sl ks.length cap] 24 (0, 0)); have hx := bagHas_any fs (.mk k nn ks) _ _ (w.alloc (.cells #[.int .i64 k, .string nn, .slice sl ks.length cap] 24 (0, 0))) (h2.list.up B0) (hrep.up B0); rw [hh] at hx; have HX : Hid (Calls Try.prog 58 _ _ _) := hx; have HCp : Hid (∀ v w, _ → Calls Try.prog 59 #[v] w _) := hcp; have HK : Hid (KO (cb + 1) w ad cp fs) := h2; obtain ⟨i0, hi, hz0, hz1, hz2⟩ := infoFormula; (have hmf : ∀ (fn : Fn) (first cap : Array Value) (w : World), (Instr.makeFunc fn first cap).run Try.prog w = .ok (.func fn first cap) w := fun _ _ _ _ => rfl); have k1 := alloc_keep h1 (.cells #[.int .i64 k, .string nn, .slice sl ks.length cap] 24 (0, 0)); (have hLI : (fs.length : Int) ≤ 200 := by omega); obtain ⟨a0, a1⟩ := blk1 k1; clear hx h2 hcp
  go_enter Try.func57, Try.ntmps57
  go_wp2_with (first
    | (go_at_call 58
       refine HX.out.mono ?_; rintro e w0 ⟨rfl, hb0⟩; have B1 := below_join B0 hb0; have q0 := below_keep hb0 (blk_new w _); have q1 := below_keep hb0 k1; have R0 := hrep.up B1; have HK0 : Hid (KO (cb + 1) w0 ad cp fs) := HK.out.up B1; (have HKw : Hid (Kept (fun b => b ≠ cb ∧ (Value.slice ad fs.length cp).ownBlock ≠ some b) w w0) := kept_of_below B1 fun _ h _ => h)
       have HOB : Hid (∀ b, w0.heap.size ≤ b → cb + 1 ≤ b ∧ (Value.slice ad fs.length cp).ownBlock ≠ some b) := fun b hb => by
         obtain ⟨cs, ho, -⟩ := HK0.out; (exact ⟨by have := lt_of_block (below_keep hb0 k1); omega, fun e => by have := (ho.lt b e).2; omega⟩)
       have hww := B1.size; have z0 := lt_of_block q0; have z1 := lt_of_block q1; clear a0 a1; obtain ⟨c0, c1⟩ := blk1 q1
       obtain ⟨b0, b1, b2, -⟩ := blk3 q0)
    | fail)
  go_region_law
    (first
     | (have hz := pz
        have hownA := HK0.out.up hb1'; obtain ⟨cs, hown, hlq⟩ := hownA; (refine step_append_lies _ rfl _ _ 22 rfl (cb + 1) 24 i0 (.agg #[.int .i64 0, .string ⟨#[]⟩, .slice none 0 0]) 3 48 Try.underlying22 hi hz0 hz1 hz2 rfl (by decide) _ _ _ rfl hown ⟨w0.heap.size, 0, none⟩ 1 1 [.int .i64 0, .string ⟨#[]⟩, .slice none 0 0] rfl rfl ?_ ?_ (by omega) (by unfold maxLen; omega) (by omega) (by first | omega | (simp; omega)) _ rfl ?_)
        · intro j u hu
          rw [add_none, Nat.zero_add, blk_cell hz]; simpa using hu
        · intro u hu
          simp at hu
          rcases hu with rfl | rfl | rfl <;> rfl
        intro g3 cp3 w3 hown3 hgrow hat hlt3; have hgrow' : w1.grownBy w3 (Value.slice ad fs.length cp).ownBlock := hgrow; have hat' : (Value.slice ad fs.length cp).ownBlock = some g3 ∨ g3 = w1.heap.size := hat; (have HE : Hid (∀ F, F = _ → _) := parts_end r1 hown hlq (hrep1.move fun b _ hb => ⟨rfl, HOB.out b (by simp at hb; omega)⟩) hown3 hgrow' hat'); (have HKW : Hid (Kept (fun b => b ≠ cb ∧ (Value.slice ad fs.length cp).ownBlock ≠ some b) w w1) := HKw.out.trans (kept_of_below hb1' fun _ h _ => h)); obtain ⟨e0, e1, e2, f0, f1, f2, hc3⟩ := last3 hown3 hlq.len
        have hg3 : cb + 1 ≤ g3 := by
          rcases hat' with h | h
          · exact (hown.lt g3 h).1
          · first | omega | (simp at h; omega)
        (have d1 : ¬ g3 = cb := by omega); (have d2 : ¬ cb = g3 := by omega); (have hcI : (fs.length : Int) < (cp3 : Int) := by omega); (have hcJ : (fs.length : Int) < (fs.length : Int) + 1 := by omega); (have r3 : w3.heap[cb]? = some (.cells #[.slice ad fs.length cp] 22 (0, 0)) := (hgrow'.block cb (by first | exact y4 | (simp; omega)) (fun e => by have := (hown.lt cb e.symm).1; omega)).trans r1); clear hgrow hat hgrow' hat' hown hlq hown3 c0 c1; obtain ⟨c0, c1⟩ := blk1 r3
        have y5 := lt_of_block r3)
     | (have hb1a := hb1'
        have hownA := (HK0.out.up hb1').up ((Below.refl _ w1).alloc (Nat.le_refl _) (.cells #[.int .i64 0, .string ⟨#[]⟩, .slice none 0 0] 24 (0, 0))); obtain ⟨cs, hown, hlq⟩ := hownA; (refine step_append_lies _ rfl _ _ 22 rfl (cb + 1) 24 i0 (.agg #[.int .i64 0, .string ⟨#[]⟩, .slice none 0 0]) 3 48 Try.underlying22 hi hz0 hz1 hz2 rfl (by decide) _ _ _ rfl hown ⟨w1.heap.size, 0, none⟩ 1 1 [.int .i64 0, .string ⟨#[]⟩, .slice none 0 0] rfl rfl ?_ ?_ (by omega) (by unfold maxLen; omega) (by omega) (by first | omega | (simp; omega)) _ rfl ?_)
        · intro j u hu
          rw [add_none, Nat.zero_add, blk_cell (blk_new w1 _)]; simpa using hu
        · intro u hu
          simp at hu
          rcases hu with rfl | rfl | rfl <;> rfl
        intro g3 cp3 w3 hown3 hgrow hat hlt3; have hgrow' : (w1.alloc (.cells #[.int .i64 0, .string ⟨#[]⟩, .slice none 0 0] 24 (0, 0))).grownBy w3 (Value.slice ad fs.length cp).ownBlock := hgrow; have hat' : (Value.slice ad fs.length cp).ownBlock = some g3 ∨ g3 = (w1.alloc (.cells #[.int .i64 0, .string ⟨#[]⟩, .slice none 0 0] 24 (0, 0))).heap.size := hat; (have HE : Hid (∀ F, F = _ → _) := parts_end (alloc_keep r1 _) hown hlq ((hrep1.move (ok' := fun b => w0.heap.size ≤ b) fun b _ hb => ⟨rfl, hb⟩).move fun b hb1 hb2 => ⟨Below.heap_alloc _ _ _ hb1, HOB.out b hb2⟩) hown3 hgrow' hat'); (have HKW : Hid (Kept (fun b => b ≠ cb ∧ (Value.slice ad fs.length cp).ownBlock ≠ some b) w (w1.alloc (.cells #[.int .i64 0, .string ⟨#[]⟩, .slice none 0 0] 24 (0, 0)))) := (HKw.out.trans (kept_of_below hb1' fun _ h _ => h)).alloc _); obtain ⟨e0, e1, e2, f0, f1, f2, hc3⟩ := last3 hown3 hlq.len
        have hg3 : cb + 1 ≤ g3 := by
          rcases hat' with h | h
          · exact (hown.lt g3 h).1
          · first | omega | (simp at h; omega)
        (have d1 : ¬ g3 = cb := by omega); (have d2 : ¬ cb = g3 := by omega); (have hcI : (fs.length : Int) < (cp3 : Int) := by omega); (have hcJ : (fs.length : Int) < (fs.length : Int) + 1 := by omega); (have r3 : w3.heap[cb]? = some (.cells #[.slice ad fs.length cp] 22 (0, 0)) := (hgrow'.block cb (by first | exact y4 | (simp; omega)) (fun e => by have := (hown.lt cb e.symm).1; omega)).trans (alloc_keep r1 _)); clear hgrow hat hgrow' hat' hown hlq hown3 c0 c1; obtain ⟨c0, c1⟩ := blk1 r3
        have y5 := lt_of_block r3)
     | (go_simp
        (refine (HCp.out _ _ (by first | exact R0.up (Below.refl _ _).drew | exact (R0.more _).up (Below.refl _ _).drew)).mono ?_); rintro e w1 ⟨x, rfl, hrep1, hb1⟩; obtain ⟨sl1, cap1, rfl⟩ := slice_shape hrep1; (have hb1' : Below w0.heap.size w0 w1 := by first | exact (Below.refl _ w0).drew.trans hb1 | exact ((Below.refl _ w0).alloc (Nat.le_refl _) _).drew.trans (hb1.mono (by simp))); have r1 := below_keep hb1' q1
        try (have pz := below_keep hb1 (blk_new_drew w0 (.cells #[.int .i64 0, .string ⟨#[]⟩, .slice none 0 0] 24 (0, 0)))
             obtain ⟨x0, x1, x2, -⟩ := blk3 pz)
        clear c0 c1; obtain ⟨c0, c1⟩ := blk1 r1; have y4 : cb < w1.heap.size := lt_of_block r1; have y6 := hb1'.size
        dsimp only)
     | fail)
  all_goals
    try rw [two_orders _ cb g3 _ d1]
    go_end0
    obtain ⟨u1, u2, u3, u4⟩ := HE.out _ rfl; refine ⟨rfl, g3, cp3, u1, u2, HKW.out.trans u3, ?_⟩
    rcases u4 with h | h
    · exact Or.inl h
    · exact Or.inr (by have := HKW.out.size; omega)
end Go.Proofs.Ytfhbpfgbnfcdaaa
