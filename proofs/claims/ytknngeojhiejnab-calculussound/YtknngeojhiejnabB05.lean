/- Texts of one proof, one behind the other: Parts2, Parts3, With1, PartsIn1, Math13. -/
import Derived.Test.YtknngeojhiejnabB04
/- Walks: the program's own comparison of formulas. -/
namespace Go.Proofs.Ytknngeojhiejnab
open Go.RowKit

theorem sames_in (cap : Array Value) (w : World) : (callFunc 157 cap).run Try.prog w = .ok (.enter 157 cap) w := by
  simp [go_sem]

def SamesP (m : Nat) : Prop := ∀ (f g : Fm) (v u : Value) (w : World), f.size < m → Rep w (fun _ => True) f v → Rep w (fun _ => True) g u →
  Calls Try.prog 157 #[v, u] w fun e w' => e = .returned (.bool (sameB f g)) ∧ Below w.heap.size w w'

/-- EqualFunc with the comparison itself. -/
def EqualsP (m : Nat) : Prop := ∀ (fs gs : List Fm) (v u : Value) (w : World), Fm.sizes fs < m → FL w v fs → FL w u gs →
  Calls Try.prog 159 #[v, u, .func (.func 157) #[] #[]] w fun e w' => e = .returned (.bool (decide (fs.length = gs.length) && sameBs fs gs)) ∧ Below w.heap.size w w'

set_option maxHeartbeats 4000000 in
theorem equals_step (m : Nat) (ih : SamesP m) : EqualsP m := by
  intro fs gs v u w hm h h'
  obtain ⟨ad, cap, rfl, h1, h2, h3⟩ := h
  obtain ⟨ad', cap', rfl, h1', h2', h3'⟩ := h'
  have hlI : (fs.length : Int) ≤ 9223372036854775807 := by unfold maxLen at h2; omega
  have H3 : Hid (fs ≠ [] → ∃ b off, ad = some ⟨b, off, none⟩ ∧ Reps w (fun _ => True) b off fs) := h3
  have H4 : Hid (gs ≠ [] → ∃ b off, ad' = some ⟨b, off, none⟩ ∧ Reps w (fun _ => True) b off gs) := h3'
  clear h3 h3'
  by_cases hl : fs.length = gs.length
  · rw [decide_eq_true hl, Bool.true_and]
    have HL : Hid (fs.length = gs.length) := hl
    generalize hgl : gs.length = gl at *
    subst hl
    go_enter Try.func159, Try.ntmps159
    go_wp2_with fail
    go_loopg [17] fs.length (fun g c wr => ∃ i, i ≤ fs.length ∧ g = fs.length - i ∧ c = .int .i64 (i : Nat) ∧ Below w.heap.size w wr ∧ Hid (sameBs (fs.drop i) (gs.drop i) = sameBs fs gs))
    case atStart => exact ⟨0, by omega, by omega, rfl, Below.refl _ _, by show _ = _; simp⟩
    case round =>
      obtain ⟨i, hi, hg, rfl, hbr, HN⟩ := hrel
      have HG : Hid (gk = fs.length - i) := hg
      clear hg
      by_cases hlt : i < fs.length
      · obtain ⟨⟨k2, n2, ks2⟩, hki⟩ : ∃ f, fs[i]? = some f := ⟨_, List.getElem?_eq_getElem hlt⟩
        obtain ⟨⟨k3, n3, ks3⟩, hki'⟩ : ∃ f, gs[i]? = some f := ⟨_, List.getElem?_eq_getElem (by omega)⟩
        obtain ⟨b, off, rfl, hrs⟩ := H3.out (fun e => by rw [e] at hlt; simp at hlt)
        obtain ⟨b', off', rfl, hrs'⟩ := H4.out (fun e => by rw [e] at hgl; simp at hgl; omega)
        obtain ⟨sl2, cap2, g0, g1, g2, hrep2⟩ := (hrs.up hbr).at i k2 n2 ks2 hki
        obtain ⟨sl3, cap3, p0, p1, p2, hrep3⟩ := (hrs'.up hbr).at i k3 n3 ks3 hki'
        have hltI : (i : Int) < (fs.length : Int) := by omega
        have hlc : (i : Int) < (cap : Int) := by omega
        have hlc' : (i : Int) < (cap' : Int) := by omega
        have zz := hbr.size
        have hsz : (Fm.mk k2 n2 ks2).size < m := by have := sizes_get hki; omega
        have hsm := fun v u w h1 h2 => ih (.mk k2 n2 ks2) (.mk k3 n3 ks3) v u w hsz h1 h2
        have hds := HN.out
        rw [sameBs_drop hki hki'] at hds
        generalize hbb : sameB (.mk k2 n2 ks2) (.mk k3 n3 ks3) = bb at hsm hds
        have HS : Hid (∀ v u w, _ → _ → Calls Try.prog 157 #[v, u] w _) := hsm
        have HD : Hid (_ = sameBs fs gs) := hds
        have zb := lt_of_cell g0
        have zb' := lt_of_cell p0
        simp only at zb zb'
        have hcf := sames_in
        clear hki hki' hrs hrs' H3 H4 hsm hds hbb HN
        go_wp2_with fail
        refine (HS.out _ _ _ ((hrep2.more _).more _) ((hrep3.more _).more _)).mono ?_
        rintro e w1 ⟨rfl, hb1⟩
        have B1 := below_join (below_more (below_more hbr _) _) hb1
        cases bb
        · have HF : Hid (sameBs fs gs = false) := by
            have := HD.out
            rw [Bool.false_and] at this
            exact this.symm
          clear HD
          go_wp2_with fail
          go_ret
          exact ⟨by rw [HF.out]; rfl, B1⟩
        · have HT : Hid (sameBs (fs.drop (i + 1)) (gs.drop (i + 1)) = sameBs fs gs) := by
            have := HD.out
            rw [Bool.true_and] at this
            exact this
          clear HD
          go_wp2_with fail
          go_roundg (fs.length - (i + 1))
          case measure => have := HG.out; omega
          case rel => exact ⟨i + 1, by omega, rfl, by go_num, B1, HT⟩
      · have HT : Hid (sameBs fs gs = true) := by
          have := HN.out
          rw [List.drop_of_length_le (by omega), sameBs] at this
          exact this.symm
        have hge : ¬ (i : Int) < (fs.length : Int) := by omega
        clear H3 H4 HN
        go_wp2_with fail
        go_ret
        exact ⟨by rw [HT.out]; rfl, hbr⟩
  · rw [decide_eq_false hl, Bool.false_and]
    have hlJ : ((fs.length : Int) != (gs.length : Int)) = true := by simp; omega
    clear H3 H4
    go_enter Try.func159, Try.ntmps159
    go_wp2_with fail
    go_ret
    exact ⟨rfl, Below.refl _ _⟩

theorem Rep.kids {w : World} {k : Int} {n : ByteArray} {ks : List Fm} {sl : Option Addr} {cap : Nat} (h : Rep w (fun _ => True) (.mk k n ks) (.agg #[.int .i64 k, .string n, .slice sl ks.length cap])) : FL w (.slice sl ks.length cap) ks := by
  obtain ⟨sl', cap', hv, -, h1, h2, h3⟩ := Rep.def.1 h
  simp only [Value.agg.injEq, Array.mk.injEq, List.cons.injEq, Value.slice.injEq, true_and, and_true] at hv
  obtain ⟨rfl, rfl⟩ := hv
  refine ⟨sl, cap, rfl, h1, h2, fun hne => ?_⟩
  obtain ⟨b, off, hs, -, hr⟩ := h3 hne
  exact ⟨b, off, hs, hr⟩

set_option maxHeartbeats 2000000 in
theorem sameP_step (m : Nat) (ih : EqualsP m) : SamesP (m + 1) := by
  intro f g v u w hm hrep hu
  obtain ⟨k, n, ks⟩ := f
  obtain ⟨k', n', ks'⟩ := g
  obtain ⟨sl, cap, rfl⟩ := slice_shape hrep
  obtain ⟨sl', cap', rfl⟩ := slice_shape hu
  have hb0 : Below w.heap.size w ((w.alloc (.cells #[.int .i64 k, .string n, .slice sl ks.length cap] 37 (0, 0))).alloc (.cells #[.int .i64 k', .string n', .slice sl' ks'.length cap'] 37 (0, 0))) := below_more (below_more (Below.refl _ w) _) _
  have hF := (hrep.up hb0).kids
  have hG := (hu.up hb0).kids
  have hsz : Fm.sizes ks < m := by rw [Fm.size] at hm; omega
  have HQ : Hid (∀ wx, FL wx (.slice sl ks.length cap) ks → FL wx (.slice sl' ks'.length cap') ks' → Calls Try.prog 159 _ wx _) := fun wx h1 h2 => ih ks ks' _ _ wx hsz h1 h2
  have HF : Hid (FL _ _ ks) := hF
  have HG : Hid (FL _ _ ks') := hG
  clear hF hG hrep hu
  by_cases h1 : k = k'
  · subst h1
    by_cases h2 : n.data.toList = n'.data.toList
    · have h2' : n = n' := by apply ByteArray.ext; apply Array.ext'; exact h2
      subst h2'
      have hE : sameB (.mk k n ks) (.mk k n ks') = (decide (ks.length = ks'.length) && sameBs ks ks') := by
        rw [sameB]
        simp only [Fm.kind, Fm.name, Fm.kids, decide_true, Bool.true_and]
        congr 1
      rw [hE]
      clear hE h2
      generalize (decide (ks.length = ks'.length) && sameBs ks ks') = bb at HQ ⊢
      go_enter Try.func157, Try.ntmps157
      go_wp2_with (first
        | (go_at_call 159
           refine (HQ.out _ HF.out HG.out).mono ?_
           rintro e w1 ⟨rfl, hb1⟩
           have B1 := below_join hb0 hb1)
        | fail)
      go_ret
      exact ⟨rfl, B1⟩
    · have hE : sameB (.mk k n ks) (.mk k n' ks') = false := by rw [sameB]; simp only [Fm.kind, Fm.name, h2, decide_false, Bool.and_false, Bool.false_and]
      rw [hE]
      have h3 : (n.toList == n'.toList) = false := by rw [ByteArray.toList_eq, ByteArray.toList_eq]; simpa using h2
      clear hE h2 HF HG HQ
      go_enter Try.func157, Try.ntmps157
      go_wp2_with fail
      go_ret
      exact ⟨rfl, hb0⟩
  · have hE : sameB (.mk k n ks) (.mk k' n' ks') = false := by rw [sameB]; simp [Fm.kind, h1]
    rw [hE]
    have h1' : (k == k') = false := by simpa using h1
    clear hE HF HG HQ
    go_enter Try.func157, Try.ntmps157
    go_wp2_with fail
    go_ret
    exact ⟨rfl, hb0⟩

theorem samesP_all : ∀ m, SamesP m
  | 0 => fun _ _ _ _ _ h => absurd h (Nat.not_lt_zero _)
  | m + 1 => sameP_step m (equals_step m (samesP_all m))

theorem sameP_any (f g : Fm) (v u : Value) (w : World) (hv : Rep w (fun _ => True) f v) (hu : Rep w (fun _ => True) g u) :
    Calls Try.prog 157 #[v, u] w fun e w' => e = .returned (.bool (sameB f g)) ∧ Below w.heap.size w w' :=
  samesP_all (f.size + 1) f g v u w (Nat.lt_succ_self _) hv hu

/-! Where a formula is in a list. -/
theorem sameB_sym (f g : Fm) : sameB f g = sameB g f := by
  rcases h : sameB f g with _ | _
  · rcases h' : sameB g f with _ | _
    · rfl
    · have := sameB_eq g f h'
      subst this
      rw [h'] at h
      cases h
  · have := sameB_eq f g h
    subst this
    rw [h]
def isF (n : Fm) (fs : List Fm) : Nat := fs.findIdx fun g => sameB g n
/-- The place of n in a list, or -1. -/
def atF (n : Fm) (fs : List Fm) : Int := if hasF n fs then (isF n fs : Nat) else -1
theorem place1_in (cap : Array Value) (w : World) : (callFunc 156 cap).run Try.prog w = .ok (.enter 156 cap) w := by
  simp [go_sem]

set_option maxHeartbeats 1000000 in
theorem place1_any (p n : Fm) (v u : Value) (nb : Nat) (c0 c1 c2 : Value) (w : World) (hv : Rep w (fun _ => True) p v) (hu : Rep w (fun _ => True) n u) (hue : u = .agg #[c0, c1, c2]) (h : w.heap[nb]? = some (.cells #[c0, c1, c2] 37 (0, 0))) :
    Calls Try.prog 156 #[v, .pointer (some ⟨nb, 0, none⟩)] w fun e w' => e = .returned (.bool (sameB p n)) ∧ Below w.heap.size w w' := by
  have hs := fun v u w h1 h2 => sameP_any n p v u w h1 h2
  rw [sameB_sym n p] at hs
  generalize sameB p n = bb at hs ⊢
  obtain ⟨k, m, ks⟩ := p
  obtain ⟨sl, cap, rfl⟩ := slice_shape hv
  obtain ⟨kg, ng, ksg⟩ := n
  obtain ⟨slg, capg, hug⟩ := slice_shape hu
  rw [hug] at hue
  simp only [Value.agg.injEq, Array.mk.injEq, List.cons.injEq, and_true] at hue
  obtain ⟨rfl, rfl, rfl⟩ := hue
  subst hug
  have HS : Hid (∀ v u w, _ → _ → Calls Try.prog 157 #[v, u] w _) := hs
  have k1 := alloc_keep h (.cells #[.int .i64 k, .string m, .slice sl ks.length cap] 37 (0, 0))
  obtain ⟨a1, a2, a3, -⟩ := blk3 k1
  clear hs
  go_enter Try.func156, Try.ntmps156
  go_wp2_with (first
    | (go_at_call 157
       refine (HS.out _ _ _ (hu.more _) (hv.more _)).mono ?_
       rintro e w1 ⟨rfl, hb1⟩
       have B1 := below_join (below_more (Below.refl _ w) _) hb1)
    | fail)
  go_ret
  exact ⟨rfl, B1⟩

theorem findIdx_atF {n : Fm} {fs : List Fm} {i : Nat} {g : Fm} (h : hasF n (fs.take i) = false) (hg : fs[i]? = some g) (hp : sameB g n = true) : isF n fs = i := by
  have hi : i < fs.length := by
    rcases Nat.lt_or_ge i fs.length with h' | h'
    · exact h'
    · rw [List.getElem?_eq_none h'] at hg; cases hg
  unfold isF
  refine (List.findIdx_eq hi).2 ⟨?_, fun j hj => ?_⟩
  · rw [List.getElem?_eq_getElem hi] at hg
    rw [Option.some.inj hg]
    exact hp
  · unfold hasF at h
    have := List.any_eq_false.1 h (fs[j]'(by omega)) (List.mem_take_iff_getElem.2 ⟨j, by omega, rfl⟩)
    simpa using this

set_option maxHeartbeats 2000000 in
theorem index_any (fs : List Fm) (n : Fm) (v u : Value) (nb : Nat) (c0 c1 c2 : Value) (w : World) (hf : FL w v fs) (hu : Rep w (fun _ => True) n u) (hue : u = .agg #[c0, c1, c2]) (h : w.heap[nb]? = some (.cells #[c0, c1, c2] 37 (0, 0))) :
    Calls Try.prog 158 #[v, .func (.func 156) #[] #[.pointer (some ⟨nb, 0, none⟩)]] w fun e w' => e = .returned (.int .i64 (atF n fs)) ∧ Below w.heap.size w w' := by
  obtain ⟨ad, cap, rfl, h1, h2, h3⟩ := hf
  have hlI : (fs.length : Int) ≤ 9223372036854775807 := by unfold maxLen at h2; omega
  have H3 : Hid (fs ≠ [] → ∃ b off, ad = some ⟨b, off, none⟩ ∧ Reps w (fun _ => True) b off fs) := h3
  have HC : Hid (∀ (p : Fm) (v : Value) (wx : World), Below w.heap.size w wx → Rep wx (fun _ => True) p v → Calls Try.prog 156 (#[v] ++ #[.pointer (some ⟨nb, 0, none⟩)]) wx fun e w' => e = .returned (.bool (sameB p n)) ∧ Below wx.heap.size wx w') := fun p v wx hb hv => place1_any p n v u nb c0 c1 c2 wx hv (hu.up hb) hue (below_keep hb h)
  have hcf := fun (v : Value) (w : World) => place1_in (#[v] ++ #[.pointer (some ⟨nb, 0, none⟩)]) w
  clear h3 hu hue h
  go_enter Try.func158, Try.ntmps158
  go_wp2_with fail
  go_loopg [8] fs.length (fun g c wr => ∃ i, i ≤ fs.length ∧ g = fs.length - i ∧ c = .int .i64 (i : Nat) ∧ Below w.heap.size w wr ∧ Hid (hasF n (fs.take i) = false))
  case atStart => exact ⟨0, by omega, by omega, rfl, Below.refl _ _, by show _ = _; rfl⟩
  case round =>
    obtain ⟨i, hi, hg, rfl, hbr, HN⟩ := hrel
    have HG : Hid (gk = fs.length - i) := hg
    clear hg
    by_cases hlt : i < fs.length
    · obtain ⟨⟨k2, n2, ks2⟩, hki⟩ : ∃ f, fs[i]? = some f := ⟨_, List.getElem?_eq_getElem hlt⟩
      obtain ⟨b, off, rfl, hrs⟩ := H3.out (fun e => by rw [e] at hlt; simp at hlt)
      obtain ⟨sl2, cap2, g0, g1, g2, hrep2⟩ := (hrs.up hbr).at i k2 n2 ks2 hki
      have hltI : (i : Int) < (fs.length : Int) := by omega
      have hlc : (i : Int) < (cap : Int) := by omega
      have hnx : hasF n (fs.take (i + 1)) = (hasF n (fs.take i) || sameB (.mk k2 n2 ks2) n) := by
        unfold hasF
        rw [List.take_add_one, hki, List.any_append]
        simp
      have hin : sameB (.mk k2 n2 ks2) n = true → atF n fs = (i : Nat) := fun h => by
        unfold atF
        rw [show hasF n fs = true from List.any_eq_true.2 ⟨_, List.mem_of_getElem? hki, h⟩, findIdx_atF HN.out hki h]
        rfl
      have hcc := HC.out (.mk k2 n2 ks2) _ wr hbr hrep2
      generalize hbb : sameB (.mk k2 n2 ks2) n = bb at hcc hnx hin
      have HX : Hid (hasF n (fs.take (i + 1)) = bb) := by
        show _ = _
        rw [hnx, HN.out, Bool.false_or]
      have HI : Hid (bb = true → atF n fs = (i : Nat)) := hin
      have HCC : Hid (Calls Try.prog 156 _ wr _) := hcc
      clear hki hrs H3 hcc hnx hin hbb HC hrep2
      go_wp2_with fail
      refine HCC.out.mono ?_
      rintro e w1 ⟨rfl, hb1⟩
      have B1 := below_join hbr hb1
      cases bb
      · go_wp2_with fail
        go_roundg (fs.length - (i + 1))
        case measure => have := HG.out; omega
        case rel => exact ⟨i + 1, by omega, rfl, by go_num, B1, HX⟩
      · have HT : Hid (atF n fs = (i : Nat)) := HI.out rfl
        clear HI HX
        go_wp2_with fail
        go_ret
        exact ⟨by rw [HT.out]; rfl, B1⟩
    · have HT : Hid (atF n fs = -1) := by
        have := HN.out
        rw [List.take_of_length_le (by omega)] at this
        show _ = _
        unfold atF
        rw [this]
        rfl
      have hge : ¬ (i : Int) < (fs.length : Int) := by omega
      clear H3 HN HC
      go_wp2_with fail
      go_ret
      exact ⟨by rw [HT.out]; rfl, hbr⟩

set_option maxHeartbeats 1000000 in
theorem place_any (fs : List Fm) (n : Fm) (v u : Value) (w : World) (hf : FL w v fs) (hu : Rep w (fun _ => True) n u) :
    Calls Try.prog 153 #[v, u] w fun e w' => e = .returned (.int .i64 (atF n fs)) ∧ Below w.heap.size w w' := by
  obtain ⟨k, nn, ks⟩ := n
  obtain ⟨sl, cap, rfl⟩ := slice_shape hu
  have B0 := below_more (Below.refl _ w) (.cells #[.int .i64 k, .string nn, .slice sl ks.length cap] 37 (0, 0))
  have hx := index_any fs (.mk k nn ks) _ _ w.heap.size _ _ _ (w.alloc (.cells #[.int .i64 k, .string nn, .slice sl ks.length cap] 37 (0, 0))) (hf.up B0) (hu.up B0) rfl (blk_new _ _)
  have HX : Hid (Calls Try.prog 158 _ _ _) := hx
  have hmf : ∀ (fn : Fn) (first cap : Array Value) (w : World), (Instr.makeFunc fn first cap).run Try.prog w = .ok (.func fn first cap) w := fun _ _ _ _ => rfl
  obtain ⟨ad, cp, rfl, -⟩ := hf
  clear hx hu
  go_enter Try.func153, Try.ntmps153
  go_wp2_with (first
    | (go_at_call 158
       refine HX.out.mono ?_
       rintro e w1 ⟨rfl, hb1⟩
       have B1 := below_join B0 hb1)
    | fail)
  go_ret
  exact ⟨rfl, B1⟩

end Go.Proofs.Ytknngeojhiejnab
/- Walks: Parts. -/
namespace Go.Proofs.Ytknngeojhiejnab
open Go.RowKit

theorem KO.list {B : Nat} {w : World} {ad : Option Addr} {cap : Nat} {fs : List Fm} (h : KO B w ad cap fs) : FL w (.slice ad fs.length cap) fs :=
  (h.rep 0 e0 (by decide)).all.kids

end Go.Proofs.Ytknngeojhiejnab
/- Walks: a formula for a name, as the yardstick has it. -/
namespace Go.Proofs.Ytknngeojhiejnab
open Go.RowKit

/-- What has been made so far: a list whose formulas lie where P holds. -/
def KP (P : Nat → Prop) (B : Nat) (w : World) (ad : Option Addr) (cap : Nat) (fs : List Fm) : Prop := ∃ cs, w.ownsRow B 37 3 (.slice ad fs.length cap) fs.length cs ∧ LQ (fun b => P b ∧ (Value.slice ad fs.length cap).ownBlock ≠ some b) w cs fs

theorem KP.nil {P : Nat → Prop} {B : Nat} {w : World} : KP P B w none 0 [] := ⟨[], ⟨rfl, Or.inl ⟨rfl, rfl⟩⟩, trivial⟩
theorem KP.same {P : Nat → Prop} {B : Nat} {w w' : World} {ad : Option Addr} {cap : Nat} {fs : List Fm} (h : KP P B w ad cap fs) (hb : ∀ b, P b ∨ B ≤ b → b < w.heap.size → w'.heap[b]? = w.heap[b]?) : KP P B w' ad cap fs := by
  obtain ⟨cs, ⟨h1, h2⟩, h3⟩ := h
  refine ⟨cs, ⟨h1, ?_⟩, h3.move fun b hb1 hb2 => ⟨hb b (Or.inl hb2.1) hb1, hb2⟩⟩
  rcases h2 with h2 | ⟨g, cap, cur, hv, hg, hh, r⟩
  · exact Or.inl h2
  · exact Or.inr ⟨g, cap, cur, hv, hg, (hb g (Or.inr hg) (lt_of_block hh)).trans hh, r⟩
theorem KP.up {P : Nat → Prop} {B : Nat} {w w' : World} {ad : Option Addr} {cap : Nat} {fs : List Fm} (h : KP P B w ad cap fs) (hb : Below w.heap.size w w') : KP P B w' ad cap fs := h.same fun b _ hb1 => hb.block b hb1

theorem KP.app {P : Nat → Prop} {B : Nat} {w1 w3 : World} {o : Obj} {ad : Option Addr} {cp : Nat} {fs : List Fm} {kid : Fm} {c0 c1 c2 : Value} {cs : List Value} {g3 cp3 i : Nat} (hi : fs.length = i) (hB : B ≤ w1.heap.size)
    (hown : (w1.alloc o).ownsRow B 37 3 (.slice ad i cp) i cs) (hlq : LQ (fun b => P b ∧ (Value.slice ad i cp).ownBlock ≠ some b) (w1.alloc o) cs fs)
    (hrep : Rep w1 (fun b => P b ∧ (Value.slice ad i cp).ownBlock ≠ some b) kid (.agg #[c0, c1, c2]))
    (hown3 : w3.ownsRow B 37 3 (.slice (some ⟨g3, 0, none⟩) (i + 1) cp3) (i + 1) (cs ++ [c0, c1, c2]))
    (hgrow : (w1.alloc o).grownBy w3 (Value.slice ad i cp).ownBlock) (hat : (Value.slice ad i cp).ownBlock = some g3 ∨ g3 = (w1.alloc o).heap.size) :
    Below B w1 w3 ∧ KP P B w3 (some ⟨g3, 0, none⟩) cp3 (fs ++ [kid]) := by
  subst hi
  have hs : (w1.alloc o).heap.size = w1.heap.size + 1 := by simp
  have hs2 := hgrow.size
  refine ⟨⟨hgrow.os, hgrow.tape, hgrow.output, by omega, fun j hj => ?_⟩, cs ++ [c0, c1, c2], ?_, ?_⟩
  · rw [hgrow.block j (by omega) (fun e => by have := (hown.lt j e.symm).1; omega), Below.heap_alloc _ _ _ (by omega)]
  · rw [List.length_append]; exact hown3
  · refine (hlq.append (ds := [c0, c1, c2]) (gs := [kid]) ⟨hrep.move fun b hb hok => ⟨Below.heap_alloc _ _ _ hb, hok⟩, trivial⟩).move fun b hb hok => ⟨hgrow.block b hb (fun e => hok.2 e.symm), hok.1, fun e => ?_⟩
    have e : g3 = b := by simpa [Value.ownBlock] using e
    rcases hat with h | h
    · exact hok.2 (by rw [h, e])
    · omega

theorem KP.rep {P : Nat → Prop} {B : Nat} {w : World} {ad : Option Addr} {cap : Nat} {ks : List Fm} (h : KP P B w ad cap ks) (hPB : ∀ b, B ≤ b → P b) (k : Int) (n : ByteArray) (hn : n.size ≤ maxLen) : Rep w P (.mk k n ks) (.agg #[.int .i64 k, .string n, .slice ad ks.length cap]) := by
  obtain ⟨cs, hown, hlq⟩ := h
  rcases hown.2 with ⟨hv, h0⟩ | ⟨g, cp, cur, hv, hg, hh, h1, h2, -⟩
  · simp only [Value.slice.injEq] at hv
    obtain ⟨rfl, -, rfl⟩ := hv
    exact Rep.def.2 ⟨none, 0, rfl, hn, by omega, by simp, fun hne => absurd (List.length_eq_zero_iff.1 h0) hne⟩
  · simp only [Value.slice.injEq, true_and] at hv
    obtain ⟨rfl, rfl⟩ := hv
    refine Rep.def.2 ⟨_, cap, rfl, hn, h1, h2, fun _ => ⟨g, 0, rfl, hPB g hg, ?_⟩⟩
    exact (hlq.move (ok' := P) fun b _ hb => ⟨rfl, hb.1⟩).reps (b := g) 0 fun j u hu => by
      have := hown.cells (g := g) rfl j u hu
      rw [add_none] at this
      rw [Nat.zero_add] at this ⊢
      exact this

end Go.Proofs.Ytknngeojhiejnab
/- Walks: the parts of a formula, as the yardstick tells them. -/
namespace Go.Proofs.Ytknngeojhiejnab
open Go.RowKit

theorem KP.list {P : Nat → Prop} {B : Nat} {w : World} {ad : Option Addr} {cap : Nat} {fs : List Fm} (h : KP P B w ad cap fs) (hPB : ∀ b, B ≤ b → P b) : FL w (.slice ad fs.length cap) fs :=
  (h.rep hPB 0 e0 (by decide)).all.kids

theorem walk_all (f : Fm) (h : f.size ≤ 20000) : walkL f 100000 = allN f := by
  rw [walkL_take, List.take_of_length_le (by rw [allN_len]; omega)]

end Go.Proofs.Ytknngeojhiejnab
/- Names, rising, each once: such a list is told by what is in it. -/
namespace Go.Proofs.Ytknngeojhiejnab
open Go.Sort

abbrev Rising (l : List (List UInt8)) : Prop := l.Pairwise (· < ·)

theorem lt_irr (a : List UInt8) : ¬ a < a := List.lt_irrefl a
theorem lt_asy {a b : List UInt8} (h : a < b) : ¬ b < a := fun k => lt_irr a (List.lt_trans h k)
theorem lt_tot (a b : List UInt8) : a < b ∨ a = b ∨ b < a := by
  rcases Classical.em (a < b) with h | h
  · exact Or.inl h
  · rcases Classical.em (b < a) with k | k
    · exact Or.inr (Or.inr k)
    · exact Or.inr (Or.inl (List.le_antisymm (List.not_lt.1 k) (List.not_lt.1 h)))

theorem rising_ext : ∀ {l m : List (List UInt8)}, Rising l → Rising m → (∀ t, t ∈ l ↔ t ∈ m) → l = m
  | [], [], _, _, _ => rfl
  | [], b :: m, _, _, h => absurd ((h b).2 (List.mem_cons_self ..)) (by simp)
  | a :: l, [], _, _, h => absurd ((h a).1 (List.mem_cons_self ..)) (by simp)
  | a :: l, b :: m, hl, hm, h => by
    obtain ⟨hl1, hl2⟩ := List.pairwise_cons.1 hl
    obtain ⟨hm1, hm2⟩ := List.pairwise_cons.1 hm
    have hab : a = b := by
      rcases List.mem_cons.1 ((h a).1 (List.mem_cons_self ..)) with e | e
      · exact e
      · rcases List.mem_cons.1 ((h b).2 (List.mem_cons_self ..)) with k | k
        · exact k.symm
        · exact absurd (hl1 b k) (lt_asy (hm1 a e))
    subst hab
    congr 1
    refine rising_ext hl2 hm2 fun t => ⟨fun ht => ?_, fun ht => ?_⟩
    · rcases List.mem_cons.1 ((h t).1 (List.mem_cons_of_mem _ ht)) with e | e
      · subst e; exact absurd (hl1 t ht) (lt_irr t)
      · exact e
    · rcases List.mem_cons.1 ((h t).2 (List.mem_cons_of_mem _ ht)) with e | e
      · subst e; exact absurd (hm1 t ht) (lt_irr t)
      · exact e

theorem nmsU_rising (f : Fm) : Rising (nmsU f) := by
  unfold nmsU
  have hs : (srt (nmsT f)).Pairwise (fun a b => decide (a ≤ b) = true) :=
    List.pairwise_mergeSort (fun a b c h1 h2 => by
      simp only [decide_eq_true_eq] at *
      exact List.le_trans h1 h2) (fun a b => by
      simp only [Bool.or_eq_true, decide_eq_true_eq]
      exact List.le_total a b) _
  generalize srt (nmsT f) = zs at *
  have hle : ∀ i j, i ≤ j → j < zs.length → zs.toArray[i]! ≤ zs.toArray[j]! := by
    intro i j hij hj
    rw [getElem!_pos _ i (by simp; omega), getElem!_pos _ j (by simpa using hj)]
    simp only [List.getElem_toArray]
    rcases Nat.lt_or_ge i j with h | h
    · have := List.pairwise_iff_getElem.1 hs i j (by omega) hj h
      simpa using this
    · obtain rfl : i = j := by omega
      exact List.le_refl _
  unfold Lib.compact Lib.compactUpTo
  rw [Rising, List.pairwise_map]
  refine List.Pairwise.imp_of_mem ?_ ((List.pairwise_lt_range (n := zs.length)).filter _)
  intro i j hi hj hij
  have hj1 := List.mem_range.1 (List.mem_filter.1 hj).1
  have hk : zs.toArray[j]! ≠ zs.toArray[j - 1]! := by
    have := (List.mem_filter.1 hj).2
    simp only [Lib.keeps, decide_eq_true_eq] at this
    rcases this with h | h
    · omega
    · exact h
  have h1 := hle i (j - 1) (by omega) (by omega)
  have h2 := hle (j - 1) j (by omega) hj1
  rcases lt_tot zs.toArray[i]! zs.toArray[j]! with h | h | h
  · exact h
  · rw [h] at h1
    exact absurd (List.le_antisymm h1 h2) hk
  · exact absurd (hle i j (by omega) hj1) (List.not_le.2 h)

/-- A name at its place. -/
theorem rising_ins {l : List (List UInt8)} {t : List UInt8} {a : Nat} (hl : Rising l) (h1 : ∀ (j : Nat) (x : List UInt8), j < a → l[j]? = some x → x < t) (h2 : ∀ x, l[a]? = some x → ¬ x < t) (hn : t ∉ l) : Rising (l.take a ++ t :: l.drop a) := by
  have hd : ∀ x ∈ l.drop a, t < x := by
    intro x hx
    obtain ⟨j, hj, rfl⟩ := List.getElem_of_mem hx
    rw [List.length_drop] at hj
    rw [List.getElem_drop]
    have hge : ¬ l[a]'(by omega) < t := h2 _ (List.getElem?_eq_getElem (by omega))
    have hta : t < l[a]'(by omega) := by
      rcases lt_tot t (l[a]'(by omega)) with h | h | h
      · exact h
      · exact absurd (h ▸ List.getElem_mem (by omega)) hn
      · exact absurd h hge
    rcases Nat.eq_zero_or_pos j with e | e
    · subst e; simpa using hta
    · exact List.lt_trans hta (List.pairwise_iff_getElem.1 hl a (a + j) (by omega) (by omega) (by omega))
  rw [Rising, List.pairwise_append]
  refine ⟨hl.sublist (List.take_sublist _ _), List.pairwise_cons.2 ⟨hd, hl.sublist (List.drop_sublist _ _)⟩, ?_⟩
  intro x hx y hy
  obtain ⟨j, hj, rfl⟩ := List.getElem_of_mem hx
  rw [List.length_take] at hj
  have hxt : (l.take a)[j]'(by rw [List.length_take]; exact hj) < t := h1 j _ (by omega) (by rw [List.getElem_take]; exact List.getElem?_eq_getElem (by omega))
  rcases List.mem_cons.1 hy with e | e
  · subst e; exact hxt
  · exact List.lt_trans hxt (hd y e)
end Go.Proofs.Ytknngeojhiejnab
