/- Texts of one proof, one behind the other: Parts2, With1, PartsIn1, NamesIn1, TMath1, Tr1. -/
import Derived.Test.YtpmogojpdigbmabGreatB06
import Derived.Test.YtpmogojpdigbmabGreatB05
import Derived.Deep.DeepCutAuto
import Derived.Sort.Walk0
import Derived.Deep.AppendSrc
import Derived.Test.YtpmogojpdigbmabGreatB04
/- Walks: the program's own comparison of formulas. -/
namespace Go.Proofs.YtpmogojpdigbmabGreat
open Go.RowKit

theorem sames_in (cap : Array Value) (w : World) : (callFunc 100 cap).run Tryz.prog w = .ok (.enter 100 cap) w := by
  simp [go_sem]

def SamesP (m : Nat) : Prop := ∀ (f g : Fm) (v u : Value) (w : World), f.size < m → Rep w (fun _ => True) f v → Rep w (fun _ => True) g u →
  Calls Tryz.prog 100 #[v, u] w fun e w' => e = .returned (.bool (sameB f g)) ∧ Below w.heap.size w w'

/-- EqualFunc with the comparison itself. -/
def EqualsP (m : Nat) : Prop := ∀ (fs gs : List Fm) (v u : Value) (w : World), Fm.sizes fs < m → FL w v fs → FL w u gs →
  Calls Tryz.prog 105 #[v, u, .func (.func 100) #[] #[]] w fun e w' => e = .returned (.bool (decide (fs.length = gs.length) && sameBs fs gs)) ∧ Below w.heap.size w w'

set_option maxHeartbeats 4000000 in
theorem equals_step (m : Nat) (ih : SamesP m) : EqualsP m := by
  intro fs gs v u w hm h h'; obtain ⟨ad, cap, rfl, h1, h2, h3⟩ := h; obtain ⟨ad', cap', rfl, h1', h2', h3'⟩ := h'; (have hlI : (fs.length : Int) ≤ 9223372036854775807 := by unfold maxLen at h2; omega); (have H3 : Hid (fs ≠ [] → ∃ b off, ad = some ⟨b, off, none⟩ ∧ Reps w (fun _ => True) b off fs) := h3); (have H4 : Hid (gs ≠ [] → ∃ b off, ad' = some ⟨b, off, none⟩ ∧ Reps w (fun _ => True) b off gs) := h3'); clear h3 h3'; by_cases hl : fs.length = gs.length
  · rw [decide_eq_true hl, Bool.true_and]
    have HL : Hid (fs.length = gs.length) := hl; generalize hgl : gs.length = gl at *; subst hl
    go_enter Tryz.func105, Tryz.ntmps105
    go_wp2_with fail
    go_loopg [17] fs.length (fun g c wr => ∃ i, i ≤ fs.length ∧ g = fs.length - i ∧ c = .int .i64 (i : Nat) ∧ Below w.heap.size w wr ∧ Hid (sameBs (fs.drop i) (gs.drop i) = sameBs fs gs))
    case atStart => exact ⟨0, by omega, by omega, rfl, Below.refl _ _, by show _ = _; simp⟩
    case round =>
      obtain ⟨i, hi, hg, rfl, hbr, HN⟩ := hrel; have HG : Hid (gk = fs.length - i) := hg; clear hg; by_cases hlt : i < fs.length
      · obtain ⟨⟨k2, n2, ks2⟩, hki⟩ : ∃ f, fs[i]? = some f := ⟨_, List.getElem?_eq_getElem hlt⟩
        (obtain ⟨⟨k3, n3, ks3⟩, hki'⟩ : ∃ f, gs[i]? = some f := ⟨_, List.getElem?_eq_getElem (by omega)⟩); (obtain ⟨b, off, rfl, hrs⟩ := H3.out (fun e => by rw [e] at hlt; simp at hlt)); (obtain ⟨b', off', rfl, hrs'⟩ := H4.out (fun e => by rw [e] at hgl; simp at hgl; omega)); obtain ⟨sl2, cap2, g0, g1, g2, hrep2⟩ := (hrs.up hbr).at i k2 n2 ks2 hki; obtain ⟨sl3, cap3, p0, p1, p2, hrep3⟩ := (hrs'.up hbr).at i k3 n3 ks3 hki'; (have hltI : (i : Int) < (fs.length : Int) := by omega); (have hlc : (i : Int) < (cap : Int) := by omega); (have hlc' : (i : Int) < (cap' : Int) := by omega); have zz := hbr.size; (have hsz : (Fm.mk k2 n2 ks2).size < m := by have := sizes_get hki; omega); (have hsm := fun v u w h1 h2 => ih (.mk k2 n2 ks2) (.mk k3 n3 ks3) v u w hsz h1 h2); have hds := HN.out; rw [sameBs_drop hki hki'] at hds; generalize hbb : sameB (.mk k2 n2 ks2) (.mk k3 n3 ks3) = bb at hsm hds; have HS : Hid (∀ v u w, _ → _ → Calls Tryz.prog 100 #[v, u] w _) := hsm; have HD : Hid (_ = sameBs fs gs) := hds; have zb := lt_of_cell g0; have zb' := lt_of_cell p0; simp only at zb zb'; have hcf := sames_in; clear hki hki' hrs hrs' H3 H4 hsm hds hbb HN; go_wp2_with fail; refine (HS.out _ _ _ ((hrep2.more _).more _) ((hrep3.more _).more _)).mono ?_; rintro e w1 ⟨rfl, hb1⟩; have B1 := below_join (below_more (below_more hbr _) _) hb1
        cases bb
        · have HF : Hid (sameBs fs gs = false) := by
            have := HD.out; rw [Bool.false_and] at this; exact this.symm
          clear HD; go_wp2_with fail; go_ret; (exact ⟨by rw [HF.out]; rfl, B1⟩)
        · have HT : Hid (sameBs (fs.drop (i + 1)) (gs.drop (i + 1)) = sameBs fs gs) := by
            have := HD.out; rw [Bool.true_and] at this; exact this
          clear HD; go_wp2_with fail
          go_roundg (fs.length - (i + 1))
          case measure => have := HG.out; omega
          case rel => exact ⟨i + 1, by omega, rfl, by go_num, B1, HT⟩
      · have HT : Hid (sameBs fs gs = true) := by
          have := HN.out; (rw [List.drop_of_length_le (by omega), sameBs] at this); exact this.symm
        (have hge : ¬ (i : Int) < (fs.length : Int) := by omega); clear H3 H4 HN; go_wp2_with fail; go_ret; (exact ⟨by rw [HT.out]; rfl, hbr⟩)
  · rw [decide_eq_false hl, Bool.false_and]
    (have hlJ : ((fs.length : Int) != (gs.length : Int)) = true := by simp; omega); clear H3 H4
    go_enter Tryz.func105, Tryz.ntmps105
    go_wp2_with fail; go_ret; exact ⟨rfl, Below.refl _ _⟩

theorem Rep.kids {w : World} {k : Int} {n : ByteArray} {ks : List Fm} {sl : Option Addr} {cap : Nat} (h : Rep w (fun _ => True) (.mk k n ks) (.agg #[.int .i64 k, .string n, .slice sl ks.length cap])) : FL w (.slice sl ks.length cap) ks := by
  obtain ⟨sl', cap', hv, -, h1, h2, h3⟩ := Rep.def.1 h; simp only [Value.agg.injEq, Array.mk.injEq, List.cons.injEq, Value.slice.injEq, true_and, and_true] at hv; obtain ⟨rfl, rfl⟩ := hv; (refine ⟨sl, cap, rfl, h1, h2, fun hne => ?_⟩); obtain ⟨b, off, hs, -, hr⟩ := h3 hne; exact ⟨b, off, hs, hr⟩

set_option maxHeartbeats 2000000 in
theorem sameP_step (m : Nat) (ih : EqualsP m) : SamesP (m + 1) := by
  intro f g v u w hm hrep hu; obtain ⟨k, n, ks⟩ := f; obtain ⟨k', n', ks'⟩ := g; obtain ⟨sl, cap, rfl⟩ := slice_shape hrep; obtain ⟨sl', cap', rfl⟩ := slice_shape hu; have hb0 : Below w.heap.size w ((w.alloc (.cells #[.int .i64 k, .string n, .slice sl ks.length cap] 24 (0, 0))).alloc (.cells #[.int .i64 k', .string n', .slice sl' ks'.length cap'] 24 (0, 0))) := below_more (below_more (Below.refl _ w) _) _; have hF := (hrep.up hb0).kids; have hG := (hu.up hb0).kids; (have hsz : Fm.sizes ks < m := by rw [Fm.size] at hm; omega); (have HQ : Hid (∀ wx, FL wx (.slice sl ks.length cap) ks → FL wx (.slice sl' ks'.length cap') ks' → Calls Tryz.prog 105 _ wx _) := fun wx h1 h2 => ih ks ks' _ _ wx hsz h1 h2); have HF : Hid (FL _ _ ks) := hF; have HG : Hid (FL _ _ ks') := hG; clear hF hG hrep hu; by_cases h1 : k = k'
  · subst h1
    by_cases h2 : n.data.toList = n'.data.toList
    · have h2' : n = n' := by apply ByteArray.ext; apply Array.ext'; exact h2
      subst h2'
      have hE : sameB (.mk k n ks) (.mk k n ks') = (decide (ks.length = ks'.length) && sameBs ks ks') := by
        rw [sameB]; simp only [Fm.kind, Fm.name, Fm.kids, decide_true, Bool.true_and]
        congr 1
      rw [hE]; clear hE h2; generalize (decide (ks.length = ks'.length) && sameBs ks ks') = bb at HQ ⊢
      go_enter Tryz.func100, Tryz.ntmps100
      go_wp2_with (first
        | (go_at_call 105
           refine (HQ.out _ HF.out HG.out).mono ?_; rintro e w1 ⟨rfl, hb1⟩
           have B1 := below_join hb0 hb1)
        | fail)
      go_ret; exact ⟨rfl, B1⟩
    · have hE : sameB (.mk k n ks) (.mk k n' ks') = false := by rw [sameB]; simp only [Fm.kind, Fm.name, h2, decide_false, Bool.and_false, Bool.false_and]
      rw [hE]; (have h3 : (n.toList == n'.toList) = false := by rw [ByteArray.toList_eq, ByteArray.toList_eq]; simpa using h2); clear hE h2 HF HG HQ
      go_enter Tryz.func100, Tryz.ntmps100
      go_wp2_with fail; go_ret; exact ⟨rfl, hb0⟩
  · have hE : sameB (.mk k n ks) (.mk k' n' ks') = false := by rw [sameB]; simp [Fm.kind, h1]
    rw [hE]; (have h1' : (k == k') = false := by simpa using h1); clear hE HF HG HQ
    go_enter Tryz.func100, Tryz.ntmps100
    go_wp2_with fail; go_ret; exact ⟨rfl, hb0⟩

theorem samesP_all : ∀ m, SamesP m
  | 0 => fun _ _ _ _ _ h => absurd h (Nat.not_lt_zero _)
  | m + 1 => sameP_step m (equals_step m (samesP_all m))

theorem sameP_any (f g : Fm) (v u : Value) (w : World) (hv : Rep w (fun _ => True) f v) (hu : Rep w (fun _ => True) g u) :
    Calls Tryz.prog 100 #[v, u] w fun e w' => e = .returned (.bool (sameB f g)) ∧ Below w.heap.size w w' :=
  samesP_all (f.size + 1) f g v u w (Nat.lt_succ_self _) hv hu

/-! Where a formula is in a list. -/
theorem sameB_sym (f g : Fm) : sameB f g = sameB g f := by
  rcases h : sameB f g with _ | _
  · rcases h' : sameB g f with _ | _
    · rfl
    · have := sameB_eq g f h'
      subst this; rw [h'] at h
      cases h
  · have := sameB_eq f g h
    subst this; rw [h]
def isF (n : Fm) (fs : List Fm) : Nat := fs.findIdx fun g => sameB g n
/-- The place of n in a list, or -1. -/
def atF (n : Fm) (fs : List Fm) : Int := if hasF n fs then (isF n fs : Nat) else -1
theorem place1_in (cap : Array Value) (w : World) : (callFunc 99 cap).run Tryz.prog w = .ok (.enter 99 cap) w := by
  simp [go_sem]

set_option maxHeartbeats 1000000 in
theorem place1_any (p n : Fm) (v u : Value) (nb : Nat) (c0 c1 c2 : Value) (w : World) (hv : Rep w (fun _ => True) p v) (hu : Rep w (fun _ => True) n u) (hue : u = .agg #[c0, c1, c2]) (h : w.heap[nb]? = some (.cells #[c0, c1, c2] 24 (0, 0))) :
    Calls Tryz.prog 99 #[v, .pointer (some ⟨nb, 0, none⟩)] w fun e w' => e = .returned (.bool (sameB p n)) ∧ Below w.heap.size w w' := by
  (have hs := fun v u w h1 h2 => sameP_any n p v u w h1 h2); rw [sameB_sym n p] at hs; generalize sameB p n = bb at hs ⊢; obtain ⟨k, m, ks⟩ := p; obtain ⟨sl, cap, rfl⟩ := slice_shape hv; obtain ⟨kg, ng, ksg⟩ := n; obtain ⟨slg, capg, hug⟩ := slice_shape hu; rw [hug] at hue; simp only [Value.agg.injEq, Array.mk.injEq, List.cons.injEq, and_true] at hue; obtain ⟨rfl, rfl, rfl⟩ := hue; subst hug; have HS : Hid (∀ v u w, _ → _ → Calls Tryz.prog 100 #[v, u] w _) := hs; have k1 := alloc_keep h (.cells #[.int .i64 k, .string m, .slice sl ks.length cap] 24 (0, 0)); obtain ⟨a1, a2, a3, -⟩ := blk3 k1; clear hs
  go_enter Tryz.func99, Tryz.ntmps99
  go_wp2_with (first
    | (go_at_call 100
       refine (HS.out _ _ _ (hu.more _) (hv.more _)).mono ?_; rintro e w1 ⟨rfl, hb1⟩
       have B1 := below_join (below_more (Below.refl _ w) _) hb1)
    | fail)
  go_ret; exact ⟨rfl, B1⟩

theorem findIdx_atF {n : Fm} {fs : List Fm} {i : Nat} {g : Fm} (h : hasF n (fs.take i) = false) (hg : fs[i]? = some g) (hp : sameB g n = true) : isF n fs = i := by
  have hi : i < fs.length := by
    rcases Nat.lt_or_ge i fs.length with h' | h'
    · exact h'
    · rw [List.getElem?_eq_none h'] at hg; cases hg
  unfold isF; (refine (List.findIdx_eq hi).2 ⟨?_, fun j hj => ?_⟩)
  · rw [List.getElem?_eq_getElem hi] at hg
    rw [Option.some.inj hg]; exact hp
  · unfold hasF at h
    (have := List.any_eq_false.1 h (fs[j]'(by omega)) (List.mem_take_iff_getElem.2 ⟨j, by omega, rfl⟩)); simpa using this

set_option maxHeartbeats 2000000 in
theorem index_any (fs : List Fm) (n : Fm) (v u : Value) (nb : Nat) (c0 c1 c2 : Value) (w : World) (hf : FL w v fs) (hu : Rep w (fun _ => True) n u) (hue : u = .agg #[c0, c1, c2]) (h : w.heap[nb]? = some (.cells #[c0, c1, c2] 24 (0, 0))) :
    Calls Tryz.prog 101 #[v, .func (.func 99) #[] #[.pointer (some ⟨nb, 0, none⟩)]] w fun e w' => e = .returned (.int .i64 (atF n fs)) ∧ Below w.heap.size w w' := by
  obtain ⟨ad, cap, rfl, h1, h2, h3⟩ := hf; (have hlI : (fs.length : Int) ≤ 9223372036854775807 := by unfold maxLen at h2; omega); (have H3 : Hid (fs ≠ [] → ∃ b off, ad = some ⟨b, off, none⟩ ∧ Reps w (fun _ => True) b off fs) := h3); (have HC : Hid (∀ (p : Fm) (v : Value) (wx : World), Below w.heap.size w wx → Rep wx (fun _ => True) p v → Calls Tryz.prog 99 (#[v] ++ #[.pointer (some ⟨nb, 0, none⟩)]) wx fun e w' => e = .returned (.bool (sameB p n)) ∧ Below wx.heap.size wx w') := fun p v wx hb hv => place1_any p n v u nb c0 c1 c2 wx hv (hu.up hb) hue (below_keep hb h)); (have hcf := fun (v : Value) (w : World) => place1_in (#[v] ++ #[.pointer (some ⟨nb, 0, none⟩)]) w); clear h3 hu hue h
  go_enter Tryz.func101, Tryz.ntmps101
  go_wp2_with fail
  go_loopg [8] fs.length (fun g c wr => ∃ i, i ≤ fs.length ∧ g = fs.length - i ∧ c = .int .i64 (i : Nat) ∧ Below w.heap.size w wr ∧ Hid (hasF n (fs.take i) = false))
  case atStart => exact ⟨0, by omega, by omega, rfl, Below.refl _ _, by show _ = _; rfl⟩
  case round =>
    obtain ⟨i, hi, hg, rfl, hbr, HN⟩ := hrel; have HG : Hid (gk = fs.length - i) := hg; clear hg; by_cases hlt : i < fs.length
    · obtain ⟨⟨k2, n2, ks2⟩, hki⟩ : ∃ f, fs[i]? = some f := ⟨_, List.getElem?_eq_getElem hlt⟩
      (obtain ⟨b, off, rfl, hrs⟩ := H3.out (fun e => by rw [e] at hlt; simp at hlt)); obtain ⟨sl2, cap2, g0, g1, g2, hrep2⟩ := (hrs.up hbr).at i k2 n2 ks2 hki; (have hltI : (i : Int) < (fs.length : Int) := by omega); (have hlc : (i : Int) < (cap : Int) := by omega)
      have hnx : hasF n (fs.take (i + 1)) = (hasF n (fs.take i) || sameB (.mk k2 n2 ks2) n) := by
        unfold hasF; rw [List.take_add_one, hki, List.any_append]
        simp
      have hin : sameB (.mk k2 n2 ks2) n = true → atF n fs = (i : Nat) := fun h => by
        unfold atF; rw [show hasF n fs = true from List.any_eq_true.2 ⟨_, List.mem_of_getElem? hki, h⟩, findIdx_atF HN.out hki h]; rfl
      have hcc := HC.out (.mk k2 n2 ks2) _ wr hbr hrep2; generalize hbb : sameB (.mk k2 n2 ks2) n = bb at hcc hnx hin
      have HX : Hid (hasF n (fs.take (i + 1)) = bb) := by
        show _ = _; rw [hnx, HN.out, Bool.false_or]
      have HI : Hid (bb = true → atF n fs = (i : Nat)) := hin; have HCC : Hid (Calls Tryz.prog 99 _ wr _) := hcc; clear hki hrs H3 hcc hnx hin hbb HC hrep2; go_wp2_with fail; refine HCC.out.mono ?_; rintro e w1 ⟨rfl, hb1⟩; have B1 := below_join hbr hb1
      cases bb
      · go_wp2_with fail
        go_roundg (fs.length - (i + 1))
        case measure => have := HG.out; omega
        case rel => exact ⟨i + 1, by omega, rfl, by go_num, B1, HX⟩
      · have HT : Hid (atF n fs = (i : Nat)) := HI.out rfl
        clear HI HX; go_wp2_with fail; go_ret; (exact ⟨by rw [HT.out]; rfl, B1⟩)
    · have HT : Hid (atF n fs = -1) := by
        have := HN.out; (rw [List.take_of_length_le (by omega)] at this); show _ = _; unfold atF; rw [this]; rfl
      (have hge : ¬ (i : Int) < (fs.length : Int) := by omega); clear H3 HN HC; go_wp2_with fail; go_ret; (exact ⟨by rw [HT.out]; rfl, hbr⟩)

set_option maxHeartbeats 1000000 in
theorem place_any (fs : List Fm) (n : Fm) (v u : Value) (w : World) (hf : FL w v fs) (hu : Rep w (fun _ => True) n u) :
    Calls Tryz.prog 94 #[v, u] w fun e w' => e = .returned (.int .i64 (atF n fs)) ∧ Below w.heap.size w w' := by
  obtain ⟨k, nn, ks⟩ := n; obtain ⟨sl, cap, rfl⟩ := slice_shape hu; have B0 := below_more (Below.refl _ w) (.cells #[.int .i64 k, .string nn, .slice sl ks.length cap] 24 (0, 0)); have hx := index_any fs (.mk k nn ks) _ _ w.heap.size _ _ _ (w.alloc (.cells #[.int .i64 k, .string nn, .slice sl ks.length cap] 24 (0, 0))) (hf.up B0) (hu.up B0) rfl (blk_new _ _); have HX : Hid (Calls Tryz.prog 101 _ _ _) := hx; (have hmf : ∀ (fn : Fn) (first cap : Array Value) (w : World), (Instr.makeFunc fn first cap).run Tryz.prog w = .ok (.func fn first cap) w := fun _ _ _ _ => rfl); obtain ⟨ad, cp, rfl, -⟩ := hf; clear hx hu
  go_enter Tryz.func94, Tryz.ntmps94
  go_wp2_with (first
    | (go_at_call 101
       refine HX.out.mono ?_; rintro e w1 ⟨rfl, hb1⟩
       have B1 := below_join B0 hb1)
    | fail)
  go_ret; exact ⟨rfl, B1⟩

end Go.Proofs.YtpmogojpdigbmabGreat
/- Walks: a formula for a name, as the yardstick has it. -/
namespace Go.Proofs.YtpmogojpdigbmabGreat
open Go.RowKit

/-- What has been made so far: a list whose formulas lie where P holds. -/
def KP (P : Nat → Prop) (B : Nat) (w : World) (ad : Option Addr) (cap : Nat) (fs : List Fm) : Prop := ∃ cs, w.ownsRow B 24 3 (.slice ad fs.length cap) fs.length cs ∧ LQ (fun b => P b ∧ (Value.slice ad fs.length cap).ownBlock ≠ some b) w cs fs

theorem KP.nil {P : Nat → Prop} {B : Nat} {w : World} : KP P B w none 0 [] := ⟨[], ⟨rfl, Or.inl ⟨rfl, rfl⟩⟩, trivial⟩
theorem KP.same {P : Nat → Prop} {B : Nat} {w w' : World} {ad : Option Addr} {cap : Nat} {fs : List Fm} (h : KP P B w ad cap fs) (hb : ∀ b, P b ∨ B ≤ b → b < w.heap.size → w'.heap[b]? = w.heap[b]?) : KP P B w' ad cap fs := by
  obtain ⟨cs, ⟨h1, h2⟩, h3⟩ := h; (refine ⟨cs, ⟨h1, ?_⟩, h3.move fun b hb1 hb2 => ⟨hb b (Or.inl hb2.1) hb1, hb2⟩⟩)
  rcases h2 with h2 | ⟨g, cap, cur, hv, hg, hh, r⟩
  · exact Or.inl h2
  · exact Or.inr ⟨g, cap, cur, hv, hg, (hb g (Or.inr hg) (lt_of_block hh)).trans hh, r⟩
theorem KP.up {P : Nat → Prop} {B : Nat} {w w' : World} {ad : Option Addr} {cap : Nat} {fs : List Fm} (h : KP P B w ad cap fs) (hb : Below w.heap.size w w') : KP P B w' ad cap fs := h.same fun b _ hb1 => hb.block b hb1

theorem KP.rep {P : Nat → Prop} {B : Nat} {w : World} {ad : Option Addr} {cap : Nat} {ks : List Fm} (h : KP P B w ad cap ks) (hPB : ∀ b, B ≤ b → P b) (k : Int) (n : ByteArray) (hn : n.size ≤ maxLen) : Rep w P (.mk k n ks) (.agg #[.int .i64 k, .string n, .slice ad ks.length cap]) := by
  obtain ⟨cs, hown, hlq⟩ := h
  rcases hown.2 with ⟨hv, h0⟩ | ⟨g, cp, cur, hv, hg, hh, h1, h2, -⟩
  · simp only [Value.slice.injEq] at hv
    obtain ⟨rfl, -, rfl⟩ := hv; (exact Rep.def.2 ⟨none, 0, rfl, hn, by omega, by simp, fun hne => absurd (List.length_eq_zero_iff.1 h0) hne⟩)
  · simp only [Value.slice.injEq, true_and] at hv
    obtain ⟨rfl, rfl⟩ := hv; (refine Rep.def.2 ⟨_, cap, rfl, hn, h1, h2, fun _ => ⟨g, 0, rfl, hPB g hg, ?_⟩⟩)
    exact (hlq.move (ok' := P) fun b _ hb => ⟨rfl, hb.1⟩).reps (b := g) 0 fun j u hu => by
      have := hown.cells (g := g) rfl j u hu; rw [add_none] at this; rw [Nat.zero_add] at this ⊢; exact this

end Go.Proofs.YtpmogojpdigbmabGreat
/- Walks: the parts of a formula, as the yardstick tells them. -/
namespace Go.Proofs.YtpmogojpdigbmabGreat
open Go.RowKit

theorem KP.list {P : Nat → Prop} {B : Nat} {w : World} {ad : Option Addr} {cap : Nat} {fs : List Fm} (h : KP P B w ad cap fs) (hPB : ∀ b, B ≤ b → P b) : FL w (.slice ad fs.length cap) fs :=
  (h.rep hPB 0 e0 (by decide)).all.kids

end Go.Proofs.YtpmogojpdigbmabGreat
/- Walks: the names of a formula, as the yardstick tells them. -/
namespace Go.Proofs.YtpmogojpdigbmabGreat
open Go.RowKit Go.Sort

/-- A list of texts that is being made. -/
def KS (B : Nat) (w : World) (ad : Option Addr) (cap : Nat) (l : List (List UInt8)) : Prop := w.ownsRow B 9 1 (.slice ad l.length cap) l.length (l.map encStr)
theorem KS.up {B : Nat} {w w' : World} {ad : Option Addr} {cap : Nat} {l : List (List UInt8)} (h : KS B w ad cap l) (hb : Below w.heap.size w w') : KS B w' ad cap l := owns_up h hb
theorem KS.cell {B : Nat} {w : World} {g cap : Nat} {l : List (List UInt8)} (h : KS B w (some ⟨g, 0, none⟩) cap l) (j : Nat) (t : List UInt8) (ht : l[j]? = some t) : w.cell? ⟨g, j, none⟩ = some (.string ⟨t.toArray⟩) := by
  (have := h.cells (g := g) rfl j (encStr t) (by rw [List.getElem?_map, ht]; rfl)); rw [add_none, Nat.zero_add] at this; exact this
theorem below_drewN {B : Nat} {w w' : World} (h : Below B w w') (n : Nat) : Below B w (w'.drewN n) := ⟨h.os, h.tape, h.output, h.size, h.block⟩
theorem KS.drop {B : Nat} {w : World} {g cap : Nat} {L : List (List UInt8)} (h : KS B w (some ⟨g, 0, none⟩) cap L) (a : Nat) : ∀ (j : Nat) (u : Value), ((L.drop a).map encStr)[j]? = some u → w.cell? ((⟨g, a, none⟩ : Addr).add j) = some u := fun j u hu => by
  rw [List.getElem?_map, List.getElem?_drop] at hu; obtain ⟨t, ht, rfl⟩ := Option.map_eq_some_iff.1 hu; rw [add_none]; exact h.cell (a + j) t ht
end Go.Proofs.YtpmogojpdigbmabGreat
/- The plain mathematics of layer 2: where a formula is true; the first node that is a box or a diamond. -/
namespace Go.Proofs.YtpmogojpdigbmabGreat

def val (k : Int) (pn : Bool) (l : List Bool) : Bool :=
  if k = 1 then pn else if k = 4 then !(l.getD 0 false) else if k = 5 then l.getD 0 false && l.getD 1 false else if k = 6 then l.getD 0 false || l.getD 1 false else if k = 7 then !(l.getD 0 false) || l.getD 1 false else decide (k = 2)

mutual
def tv (p : List UInt8 → Bool) : Fm → Bool
  | .mk k n ks => val k (p n.data.toList) (tvs p ks)
def tvs (p : List UInt8 → Bool) : List Fm → List Bool
  | [] => []
  | f :: fs => tv p f :: tvs p fs
end

theorem tv_name (p : List UInt8 → Bool) (n : ByteArray) : tv p (.mk 1 n []) = p n.data.toList := by rw [tv]; rfl
theorem tv_true (p : List UInt8 → Bool) : tv p (.mk 2 ⟨#[]⟩ []) = true := by rw [tv]; rfl
theorem tv_false (p : List UInt8 → Bool) : tv p (.mk 3 ⟨#[]⟩ []) = false := by rw [tv]; rfl
theorem tv_not (p : List UInt8 → Bool) (f : Fm) : tv p (.mk 4 ⟨#[]⟩ [f]) = !tv p f := by rw [tv, tvs, tvs]; rfl
theorem tv_and (p : List UInt8 → Bool) (f g : Fm) : tv p (.mk 5 ⟨#[]⟩ [f, g]) = (tv p f && tv p g) := by rw [tv, tvs, tvs, tvs]; rfl
theorem tv_or (p : List UInt8 → Bool) (f g : Fm) : tv p (.mk 6 ⟨#[]⟩ [f, g]) = (tv p f || tv p g) := by rw [tv, tvs, tvs, tvs]; rfl
theorem tv_then (p : List UInt8 → Bool) (f g : Fm) : tv p (.mk 7 ⟨#[]⟩ [f, g]) = (!tv p f || tv p g) := by rw [tv, tvs, tvs, tvs]; rfl

def isM (k : Int) : Bool := decide (k = 8) || decide (k = 9)

mutual
def modal : Fm → Nat → Nat × Bool
  | .mk k _ ks, a => if isM k then (a, true) else modals ks (a + 1)
def modals : List Fm → Nat → Nat × Bool
  | [], a => (a, false)
  | f :: fs, a => if (modal f a).2 then ((modal f a).1, true) else modals fs (modal f a).1
end

/-- The first of these nodes. -/
def mIdx : List Fm → Nat → Nat × Bool
  | [], a => (a, false)
  | f :: fs, a => if isM f.kind then (a, true) else mIdx fs (a + 1)

theorem mIdx_append : ∀ (l m : List Fm) (a : Nat), mIdx (l ++ m) a = if (mIdx l a).2 then mIdx l a else mIdx m (mIdx l a).1
  | [], m, a => by simp [mIdx]
  | f :: fs, m, a => by
    rw [List.cons_append, mIdx, mIdx]
    split
    · simp
    · exact mIdx_append fs m (a + 1)

mutual
theorem modal_idx : ∀ (f : Fm) (a : Nat), modal f a = mIdx (allN f) a
  | .mk k n ks, a => by
    rw [modal, allN, mIdx, modals_idx ks (a + 1)]; rfl
theorem modals_idx : ∀ (fs : List Fm) (a : Nat), modals fs a = mIdx (allNs fs) a
  | [], a => by rw [modals, allNs, mIdx]
  | f :: fs, a => by
    rw [modals, allNs, mIdx_append, modal_idx f a, modals_idx fs]
    split
    · rename_i h
      rw [← h]
    · rfl
end

theorem mIdx_le : ∀ (l : List Fm) (a : Nat), a ≤ (mIdx l a).1 ∧ (mIdx l a).1 ≤ a + l.length ∧ ((mIdx l a).2 = false → (mIdx l a).1 = a + l.length)
  | [], a => by simp [mIdx]
  | f :: fs, a => by
    rw [mIdx]; have := mIdx_le fs (a + 1)
    split
    · simp
    · simp only [List.length_cons]
      (exact ⟨by omega, by omega, fun h => by have := this.2.2 h; omega⟩)

theorem modal_le (f : Fm) (a : Nat) : a ≤ (modal f a).1 ∧ (modal f a).1 ≤ a + f.size := by
  rw [modal_idx]; have := mIdx_le (allN f) a; rw [allN_len] at this; exact ⟨this.1, this.2.1⟩

/-- No box, no diamond anywhere. -/
def Plain (f : Fm) : Prop := (mIdx (allN f) 0).2 = false

theorem mIdx_no : ∀ (l : List Fm) (a : Nat), (mIdx l a).2 = false ↔ ∀ f ∈ l, isM f.kind = false
  | [], a => by simp [mIdx]
  | f :: fs, a => by
    rw [mIdx]
    split
    · rename_i h; simp [h]
    · rename_i h
      rw [mIdx_no fs (a + 1)]; simp [h]

theorem plain_iff (f : Fm) : Plain f ↔ ∀ g ∈ allN f, isM g.kind = false := mIdx_no _ _
theorem Plain.kind {k : Int} {n : ByteArray} {ks : List Fm} (h : Plain (.mk k n ks)) : isM k = false := by
  rw [plain_iff] at h; (exact h (.mk k n ks) (by rw [allN]; simp))
theorem allNs_mem {ks : List Fm} {g x : Fm} (h : g ∈ ks) (hx : x ∈ allN g) : x ∈ allNs ks := by
  induction ks with
  | nil => cases h
  | cons k ks ih =>
    rw [allNs, List.mem_append]
    rcases List.mem_cons.1 h with rfl | h
    · exact Or.inl hx
    · exact Or.inr (ih h)
theorem Plain.kid {k : Int} {n : ByteArray} {ks : List Fm} (h : Plain (.mk k n ks)) {g : Fm} (hg : g ∈ ks) : Plain g := by
  rw [plain_iff] at *; intro x hx; (exact h x (by rw [allN]; exact List.mem_cons_of_mem _ (allNs_mem hg hx)))
end Go.Proofs.YtpmogojpdigbmabGreat
/- Walks: firstModal, isTrue. -/
namespace Go.Proofs.YtpmogojpdigbmabGreat
open Go.RowKit

/-! The first box or diamond. -/
def Modals (m : Nat) : Prop := ∀ (f : Fm) (a : Nat) (v : Value) (w : World), f.size < m → Fine f → a + f.size ≤ 1000 → Rep w (fun _ => True) f v →
  Calls Tryz.prog 92 #[v, .int .i64 a] w fun e w' => e = .returned (.tuple #[.int .i64 ((modal f a).1 : Nat), .bool (modal f a).2]) ∧ Below w.heap.size w w'

theorem modals_drop {ks : List Fm} {i : Nat} {f : Fm} (h : ks[i]? = some f) (a : Nat) : modals (ks.drop i) a = if (modal f a).2 then ((modal f a).1, true) else modals (ks.drop (i + 1)) (modal f a).1 := by
  have hi : i < ks.length := by
    rcases Nat.lt_or_ge i ks.length with h' | h'
    · exact h'
    · rw [List.getElem?_eq_none h'] at h; cases h
  rw [List.drop_eq_getElem_cons hi, modals]; rw [List.getElem?_eq_getElem hi] at h; rw [Option.some.inj h]

set_option maxHeartbeats 2000000 in
theorem modal_step (m : Nat) (ih : Modals m) : Modals (m + 1) := by
  intro f a v w hm hfi ha hrep; obtain ⟨k, n, ks⟩ := f; obtain ⟨sl, cap, rfl, hx1, hx2, hx3, hx4⟩ := Rep.def.1 hrep; (have HX : Hid (ks ≠ [] → ∃ b off, sl = some ⟨b, off, none⟩ ∧ True ∧ Reps w (fun _ => True) b off ks) := hx4); have hk2 := hfi.small.2; (have haI : (a : Int) ≤ 1000 := by omega); (have hkI : (ks.length : Int) ≤ 2 := by omega); have q0 := blk_new w (.cells #[.int .i64 k, .string n, .slice sl ks.length cap] 24 (0, 0)); have B0 := below_more (Below.refl _ w) (.cells #[.int .i64 k, .string n, .slice sl ks.length cap] 24 (0, 0)); clear hx4; by_cases h8 : k = 8
  · subst h8
    (have HM : Hid (modal (.mk 8 n ks) a = (a, true)) := by show _ = _; rw [modal]; rfl)
    go_enter Tryz.func92, Tryz.ntmps92
    go_wp2_with fail; go_ret2; (exact ⟨by rw [HM.out]; rfl, B0⟩)
  by_cases h9 : k = 9
  · subst h9
    (have HM : Hid (modal (.mk 9 n ks) a = (a, true)) := by show _ = _; rw [modal]; rfl)
    go_enter Tryz.func92, Tryz.ntmps92
    go_wp2_with fail; go_ret2; (exact ⟨by rw [HM.out]; rfl, B0⟩)
  (have h8' : (k == 8) = false := by simpa using h8); (have h9' : (k == 9) = false := by simpa using h9); (have HM : Hid (modal (.mk k n ks) a = modals ks (a + 1)) := by show _ = _; rw [modal]; simp [isM, h8, h9]); have HF : Hid (Fine (.mk k n ks)) := hfi; clear hfi h8 h9
  go_enter Tryz.func92, Tryz.ntmps92
  go_wp2_with fail
  go_loopg [22, 4, 5] ks.length (fun g c x y wr => ∃ i na, i ≤ ks.length ∧ g = ks.length - i ∧ c = .int .i64 (i : Nat) ∧ x = .int .i64 (na : Nat) ∧ y = .bool false ∧ Below w.heap.size w wr ∧ Hid (modals ks (a + 1) = modals (ks.drop i) na) ∧ na ≤ a + 1 + Fm.sizes (ks.take i))
  case atStart => exact ⟨0, a + 1, by omega, by omega, rfl, by go_num, rfl, B0, by show _ = _; rfl, by simp [Fm.sizes]⟩
  case round =>
    obtain ⟨i, na, hile, hg, rfl, rfl, rfl, hbr, HW, hna⟩ := hrel; have HG : Hid (gk = ks.length - i) := hg; clear hg; by_cases hlt : i < ks.length
    · obtain ⟨⟨k2, n2, ks2⟩, hki⟩ : ∃ f, ks[i]? = some f := ⟨_, List.getElem?_eq_getElem hlt⟩
      (have hltI : (i : Int) < (ks.length : Int) := by omega); (have hlc : (i : Int) < (cap : Int) := by omega); (obtain ⟨b, off, rfl, -, hrs⟩ := HX.out (fun e => by rw [e] at hlt; simp at hlt)); obtain ⟨sl2, cap2, g0, g1, g2, hrep2⟩ := (hrs.up hbr).at i k2 n2 ks2 hki; have hst := sizes_take ks i _ hki; (have hsz : (Fm.mk k2 n2 ks2).size < m := by have := sizes_get hki; rw [Fm.size] at hm; omega)
      have hst2 : Fm.sizes (ks.take (i + 1)) = Fm.sizes (ks.take i) + (Fm.mk k2 n2 ks2).size := by
        rw [List.take_add_one, hki]; show Fm.sizes (_ ++ [_]) = _; generalize ks.take i = l
        induction l with
        | nil => simp [Fm.sizes]
        | cons x l ih => simp only [List.cons_append, Fm.sizes, ih]; omega
      (have hca := fun v wx h => ih (.mk k2 n2 ks2) na v wx hsz (HF.out.kid i _ hki) (by rw [Fm.size] at ha; omega) h); have hml := modal_le (.mk k2 n2 ks2) na; have hdr := modals_drop hki na; have HW2 := HW.out; rw [hdr] at HW2; rw [Fm.size] at ha; generalize hmo : modal (.mk k2 n2 ks2) na = mo at *; obtain ⟨r, bb⟩ := mo; simp only at hml HW2 hca; (have hrI : (r : Int) ≤ 1000 := by omega); have HC : Hid (∀ v wx, _ → Calls Tryz.prog 92 _ wx _) := hca; clear hmo hca hdr hki hrs HX hrep
      cases bb
      · have HN : Hid (modals ks (a + 1) = modals (ks.drop (i + 1)) r) := HW2
        clear HW2 HW
        go_wp2_with (first
          | (go_at_call 92
             refine (HC.out _ _ (hrep2.more _)).mono ?_; rintro e w1 ⟨rfl, hb1⟩
             have B1 := below_join (below_more hbr _) hb1)
          | fail)
        go_roundg (ks.length - (i + 1))
        case measure => have := HG.out; omega
        case rel => exact ⟨i + 1, r, by omega, rfl, by go_num, rfl, rfl, B1, HN, by omega⟩
      · have HN : Hid (modals ks (a + 1) = (r, true)) := HW2
        clear HW2 HW
        go_wp2_with (first
          | (go_at_call 92
             refine (HC.out _ _ (hrep2.more _)).mono ?_; rintro e w1 ⟨rfl, hb1⟩
             have B1 := below_join (below_more hbr _) hb1)
          | fail)
        go_ret2; (exact ⟨by rw [HM.out, HN.out]; rfl, B1⟩)
    · have hge : ¬ (i : Int) < (ks.length : Int) := by omega
      have HN : Hid (modals ks (a + 1) = (na, false)) := by
        show _ = _; (rw [HW.out, List.drop_of_length_le (by omega), modals])
      clear HW HX hrep; go_wp2_with fail; go_ret2; (exact ⟨by rw [HM.out, HN.out]; rfl, hbr⟩)

theorem modals_all : ∀ m, Modals m
  | 0 => fun _ _ _ _ h => absurd h (Nat.not_lt_zero _)
  | m + 1 => modal_step m (modals_all m)

theorem modal_any (f : Fm) (v : Value) (w : World) (hf : Fine f) (hs : f.size ≤ 200) (hrep : Rep w (fun _ => True) f v) :
    Calls Tryz.prog 92 #[v, .int .i64 0] w fun e w' => e = .returned (.tuple #[.int .i64 ((modal f 0).1 : Nat), .bool (modal f 0).2]) ∧ Below w.heap.size w w' :=
  modals_all (f.size + 1) f 0 v w (Nat.lt_succ_self _) hf (by omega) hrep
end Go.Proofs.YtpmogojpdigbmabGreat
