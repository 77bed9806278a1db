/- Texts of one proof, one behind the other: Tr10, TC1, TC2, TC3. -/
import Derived.Test.YtknngeojhiejnabB08
/- Walks: isNoName, IndexFunc over texts, Value. -/
namespace Go.Proofs.Ytknngeojhiejnab
open Go.RowKit Go.Sort

theorem code_name (s : ByteArray) : (Fm.mk 1 s []).code = if isNm s.data.toList then (0, 0) else (8, 0) := by
  by_cases h : isNm s.data.toList = true
  · rw [if_pos h]
    have := chk_fine (.mk 1 s []) 0 (by have := fine_name (l := s.data.toList) h; exact this) (by rw [size_leaf]; omega)
    simp only [Fm.code, this]
  · rw [if_neg h]
    have hn : nodeF 1 s 0 = some 8 := by
      have h1 : kindB 1 = true := by decide
      have h2 : kidsN 1 = 0 := by decide
      have h3 : nameB 1 s = true := by simp [nameB, h]
      simp [nodeF, h1, h2, h3]
    have : chk (.mk 1 s []) 0 = .bad 8 0 := by
      rw [chk]
      simp [hn]
    simp only [Fm.code, this]
    rfl

theorem fault_code (a b : Int) (w : World) : (Instr.field 25 (.agg #[.int .i64 a, .int .i64 b]) 0).run Try.prog w = .ok (.int .i64 a) w := by kernel_rfl

set_option maxHeartbeats 1000000 in
theorem isNoName_any (s : ByteArray) (hs : s.size ≤ maxLen) (w : World) :
    Calls Try.prog 49 #[.string s] w fun e w' => e = .returned (.bool (!isNm s.data.toList)) ∧ Below w.heap.size w w' := by
  have hck := fun v (w : World) h => check_any (.mk 1 s []) v w h
  have hcn := code_name s
  have HC : Hid (∀ v w, _ → Calls Try.prog 63 #[v] w _) := hck
  have HL : Hid (∀ w, Rep w (fun _ => True) (.mk 1 s []) (.agg #[.int .i64 1, .string s, .slice none 0 0])) := fun w => Rep.leaf hs
  have hfc := fun a b w => fault_code a b w
  clear hck hs
  rcases hb : isNm s.data.toList with _ | _
  · have hcn' : (Fm.mk 1 s []).code = (8, 0) := by rw [hcn, hb]; rfl
    rw [hcn'] at HC
    clear hcn'
    clear hcn hb
    go_enter Try.func49, Try.ntmps49
    go_wp2_with (first
      | (go_at_call 63
         refine (HC.out _ _ (HL.out _)).mono ?_
         rintro e w1 ⟨rfl, hb1⟩)
      | fail)
    go_ret
    exact ⟨rfl, hb1⟩
  · have hcn' : (Fm.mk 1 s []).code = (0, 0) := by rw [hcn, hb]; rfl
    rw [hcn'] at HC
    clear hcn'
    clear hcn hb
    go_enter Try.func49, Try.ntmps49
    go_wp2_with (first
      | (go_at_call 63
         refine (HC.out _ _ (HL.out _)).mono ?_
         rintro e w1 ⟨rfl, hb1⟩)
      | fail)
    go_ret
    exact ⟨rfl, hb1⟩

/-- What is asked of texts, whatever they are. -/
structure PredS (fn : Nat) (cap : Array Value) (p : List UInt8 → Bool) (Ok : World → Prop) : Prop where
  up : ∀ {w w' : World}, Ok w → Below w.heap.size w w' → Ok w'
  ent : ∀ (v : Value) (w : World), (callFunc fn (#[v] ++ cap)).run Try.prog w = .ok (.enter fn (#[v] ++ cap)) w
  call : ∀ (t : List UInt8) (w : World), Ok w → t.length ≤ maxLen → Calls Try.prog fn (#[.string ⟨t.toArray⟩] ++ cap) w fun e w' => e = .returned (.bool (p t)) ∧ Below w.heap.size w w'

/-- Where it is so first, or -1. -/
def fIdxP (p : List UInt8 → Bool) (l : List (List UInt8)) : Int := if l.any p then (l.findIdx p : Nat) else -1

theorem findIdx_at {p : List UInt8 → Bool} {l : List (List UInt8)} {i : Nat} {t : List UInt8} (h : (l.take i).any p = false) (ht : l[i]? = some t) (hp : p t = true) : l.findIdx p = i := by
  have hi : i < l.length := by
    rcases Nat.lt_or_ge i l.length with h' | h'
    · exact h'
    · rw [List.getElem?_eq_none h'] at ht; cases ht
  rw [List.getElem?_eq_getElem hi] at ht
  have e := Option.some.inj ht
  rw [List.findIdx_eq hi]
  refine ⟨by rw [e]; exact hp, fun j hj => ?_⟩
  have := (List.any_eq_false.1 h) (l[j]'(by omega)) (List.mem_take_iff_getElem.2 ⟨j, by omega, rfl⟩)
  simpa using this

set_option maxHeartbeats 2000000 in
theorem idxFunc_str {fn : Nat} {cp : Array Value} {p : List UInt8 → Bool} {Ok : World → Prop} (A : PredS fn cp p Ok) (l : List (List UInt8)) (hmx : ∀ t ∈ l, t.length ≤ maxLen) (v : Value) (w : World) (hv : SL w v l) (hok : Ok w) :
    Calls Try.prog 48 #[v, .func (.func fn) #[] cp] w fun e w' => e = .returned (.int .i64 (fIdxP p l)) ∧ Below w.heap.size w w' := by
  obtain ⟨ad, cap, rfl, h1, h2, h3⟩ := hv
  have hlI : (l.length : Int) ≤ 9223372036854775807 := by unfold maxLen at h2; omega
  have H3 : Hid (l ≠ [] → ∃ g off, ad = some ⟨g, off, none⟩ ∧ ∀ (j : Nat) (t : List UInt8), l[j]? = some t → w.cell? ⟨g, off + j, none⟩ = some (.string ⟨t.toArray⟩)) := h3
  have HA : Hid (∀ (t : List UInt8) (w : World), Ok w → t.length ≤ maxLen → Calls Try.prog fn (#[.string ⟨t.toArray⟩] ++ cp) w fun e w' => e = .returned (.bool (p t)) ∧ Below w.heap.size w w') := A.call
  have HU : Hid (∀ {w w' : World}, Ok w → Below w.heap.size w w' → Ok w') := A.up
  have HMx : Hid (∀ t ∈ l, t.length ≤ maxLen) := hmx
  have HO : Hid (Ok w) := hok
  have hcf := A.ent
  clear h3 hmx hok A
  go_enter Try.func48, Try.ntmps48
  go_wp2_with fail
  go_loopg [8] l.length (fun g c wr => ∃ i, i ≤ l.length ∧ g = l.length - i ∧ c = .int .i64 (i : Nat) ∧ Below w.heap.size w wr ∧ Hid ((l.take i).any p = false))
  case atStart => exact ⟨0, by omega, by omega, rfl, Below.refl _ _, by show _ = _; rfl⟩
  case round =>
    obtain ⟨i, hi, hg, rfl, hbr, HN⟩ := hrel
    have HG : Hid (gk = l.length - i) := hg
    clear hg
    by_cases hlt : i < l.length
    · obtain ⟨t, ht⟩ : ∃ x, l[i]? = some x := ⟨_, List.getElem?_eq_getElem hlt⟩
      obtain ⟨g, off, rfl, hc⟩ := H3.out (fun e => by rw [e] at hlt; simp at hlt)
      have g0 := (hbr.cell (p := ⟨g, off + i, none⟩) (lt_of_cell (hc i t ht))).trans (hc i t ht)
      have hltI : (i : Int) < (l.length : Int) := by omega
      have hlc : (i : Int) < (cap : Int) := by omega
      have hcc := HA.out t wr (HU.out HO.out hbr) (HMx.out t (List.mem_of_getElem? ht))
      have HXi : Hid (p t = true → fIdxP p l = ((i : Nat) : Int)) := fun hp => by
        unfold fIdxP
        rw [if_pos (List.any_eq_true.2 ⟨t, List.mem_of_getElem? ht, hp⟩), findIdx_at HN.out ht hp]
      have HXn : Hid (p t = false → (l.take (i + 1)).any p = false) := fun hp => by
        rw [List.take_add_one, ht, List.any_append, HN.out]
        simp [hp]
      generalize p t = bb at *
      have HCC : Hid (Calls Try.prog fn _ wr _) := hcc
      generalize (⟨t.toArray⟩ : ByteArray) = T at *
      clear hc ht H3 hcc
      go_wp2_with fail
      refine HCC.out.mono ?_
      rintro e w1 ⟨rfl, hb1⟩
      have B1 := below_join hbr hb1
      cases bb
      · have HX := HXn.out (by first | rfl | trivial)
        have HX' : Hid ((l.take (i + 1)).any p = false) := HX
        clear HX HXn HXi
        go_wp2_with fail
        go_roundg (l.length - (i + 1))
        case measure => have := HG.out; omega
        case rel => exact ⟨i + 1, by omega, rfl, by go_num, B1, HX'⟩
      · have HX := HXi.out (by first | rfl | trivial)
        have HX' : Hid (fIdxP p l = ((i : Nat) : Int)) := HX
        clear HX HXn HXi
        go_wp2_with fail
        go_ret
        exact ⟨by rw [HX'.out]; rfl, B1⟩
    · have HT : Hid (fIdxP p l = -1) := by
        have := HN.out
        rw [List.take_of_length_le (by omega)] at this
        show _ = _
        unfold fIdxP
        rw [this]; rfl
      have hge : ¬ (i : Int) < (l.length : Int) := by omega
      clear H3 HN
      go_wp2_with fail
      go_ret
      exact ⟨by rw [HT.out]; rfl, hbr⟩

end Go.Proofs.Ytknngeojhiejnab
/- Walks: tables; the classes of Post's, one by one. -/
namespace Go.Proofs.Ytknngeojhiejnab
open Go.RowKit

/-- A table as data. -/
structure Tb where
  n : Nat
  bits : List Bool

/-- A table that is none is not asked of its class. -/
def Tb.Ok (t : Tb) : Prop := t.n ≤ 4 ∧ t.bits.length = 2 ^ t.n

def TR (w : World) (t : Tb) (v : Value) : Prop := ∃ ad cap, v = .agg #[.int .i64 (t.n : Nat), .slice ad t.bits.length cap] ∧ BL w (.slice ad t.bits.length cap) t.bits
theorem TR.up {w w' : World} {t : Tb} {v : Value} (h : TR w t v) (hb : Below w.heap.size w w') : TR w' t v := by
  obtain ⟨ad, cap, h1, h2⟩ := h
  exact ⟨ad, cap, h1, h2.up hb⟩

def cls0 (l : List Bool) : Bool := !l.getD 0 false
def cls1 (l : List Bool) : Bool := l.getD (l.length - 1) false
def cls2 (l : List Bool) : Bool := (List.range l.length).all fun k => l.getD k false != l.getD (l.length - 1 - k) false
def cls3 (n : Nat) (l : List Bool) : Bool := (List.range l.length).all fun r => (List.range n).all fun i => !(l.getD r false && !l.getD (r ||| 2 ^ i) false)
def sumTo (l : List Bool) (r : Nat) : Nat → Bool
  | 0 => l.getD 0 false
  | i + 1 => if (l.getD (2 ^ i) false != l.getD 0 false) && r.testBit i then !sumTo l r i else sumTo l r i
def cls4 (n : Nat) (l : List Bool) : Bool := (List.range l.length).all fun r => !(sumTo l r n != l.getD r false)

theorem Tb.Ok.len {t : Tb} (h : t.Ok) : 1 ≤ t.bits.length ∧ t.bits.length ≤ 16 := by
  obtain ⟨h1, h2⟩ := h
  rw [h2]
  have : t.n = 0 ∨ t.n = 1 ∨ t.n = 2 ∨ t.n = 3 ∨ t.n = 4 := by omega
  rcases this with h | h | h | h | h <;> rw [h] <;> decide

/-- Its cells. -/
theorem TR.cells {w : World} {t : Tb} {v : Value} (h : TR w t v) (hok : t.Ok) : ∃ g off cap, v = .agg #[.int .i64 (t.n : Nat), .slice (some ⟨g, off, none⟩) t.bits.length cap] ∧ t.bits.length ≤ cap ∧ ∀ j, j < t.bits.length → w.cell? ⟨g, off + j, none⟩ = some (.bool (t.bits.getD j false)) := by
  obtain ⟨ad, cap, rfl, ad', cap', h1, h2, h3, h4⟩ := h
  simp only [Value.slice.injEq, true_and] at h1
  obtain ⟨rfl, rfl⟩ := h1
  have := hok.len
  obtain ⟨g, off, rfl, h5⟩ := h4 (fun e => by rw [e] at this; simp at this)
  refine ⟨g, off, cap, rfl, h2, fun j hj => h5 j _ ?_⟩
  rw [List.getD_eq_getElem?_getD, List.getElem?_eq_getElem hj]
  rfl

theorem range_all_take (f : Nat → Bool) (n i : Nat) (hi : i < n) (_h : ∀ j, j < i → f j = true) (hf : f i = false) : (List.range n).all f = false := by
  rw [List.all_eq_false]
  exact ⟨i, List.mem_range.2 hi, by simp [hf]⟩
theorem range_all (f : Nat → Bool) (n : Nat) (h : ∀ j, j < n → f j = true) : (List.range n).all f = true := by
  rw [List.all_eq_true]
  exact fun j hj => h j (List.mem_range.1 hj)

set_option maxHeartbeats 1000000 in
theorem class0_any (t : Tb) (hok : t.Ok) (v : Value) (w : World) (h : TR w t v) :
    Calls Try.prog 57 #[v] w fun e w' => e = .returned (.bool (cls0 t.bits)) ∧ Below w.heap.size w w' := by
  obtain ⟨g, off, cap, rfl, hc, hcells⟩ := h.cells hok
  have hl := hok.len
  have B0 := below_more (Below.refl _ w) (.cells #[.int .i64 (t.n : Nat), .slice (some ⟨g, off, none⟩) t.bits.length cap] 33 (0, 0))
  have c0 := (B0.cell (p := ⟨g, off + 0, none⟩) (lt_of_cell (hcells 0 (by omega)))).trans (hcells 0 (by omega))
  rw [Nat.add_zero] at c0
  have HR : Hid (cls0 t.bits = !t.bits.getD 0 false) := rfl
  generalize t.bits.getD 0 false = bb at *
  have hlI : (1 : Int) ≤ (t.bits.length : Int) := by omega
  have hlc : (1 : Int) ≤ (cap : Int) := by omega
  have hlI0 : (0 : Int) < (t.bits.length : Int) := by omega
  have hlc0 : (0 : Int) < (cap : Int) := by omega
  clear hcells h hok
  go_enter Try.func57, Try.ntmps57
  go_wp2_with fail
  go_ret
  exact ⟨by rw [HR.out]; rfl, B0⟩

set_option maxHeartbeats 1000000 in
theorem class1_any (t : Tb) (hok : t.Ok) (v : Value) (w : World) (h : TR w t v) :
    Calls Try.prog 58 #[v] w fun e w' => e = .returned (.bool (cls1 t.bits)) ∧ Below w.heap.size w w' := by
  obtain ⟨g, off, cap, rfl, hc, hcells⟩ := h.cells hok
  have hl := hok.len
  obtain ⟨L, hL⟩ : ∃ L, t.bits.length = L + 1 := ⟨t.bits.length - 1, by omega⟩
  have B0 := below_more (Below.refl _ w) (.cells #[.int .i64 (t.n : Nat), .slice (some ⟨g, off, none⟩) t.bits.length cap] 33 (0, 0))
  have c0 := (B0.cell (p := ⟨g, off + L, none⟩) (lt_of_cell (hcells L (by omega)))).trans (hcells L (by omega))
  have HR : Hid (cls1 t.bits = t.bits.getD L false) := by show _ = _; unfold cls1; rw [hL]; rfl
  generalize t.bits.getD L false = bb at *
  generalize t.bits.length = M at *
  subst hL
  have hlI : (L : Int) ≤ 15 := by omega
  have hlc : (L : Int) < (cap : Int) := by omega
  clear hcells h hok
  go_enter Try.func58, Try.ntmps58
  go_wp2_with fail
  go_ret
  exact ⟨by rw [HR.out]; rfl, B0⟩
end Go.Proofs.Ytknngeojhiejnab
/- Walks: isSelfDual, isRising, isSum. -/
namespace Go.Proofs.Ytknngeojhiejnab
open Go.RowKit

set_option maxHeartbeats 2000000 in
theorem selfDual_any (t : Tb) (hok : t.Ok) (v : Value) (w : World) (h : TR w t v) :
    Calls Try.prog 59 #[v] w fun e w' => e = .returned (.bool (cls2 t.bits)) ∧ Below w.heap.size w w' := by
  obtain ⟨g, off, cap, rfl, hc, hcells⟩ := h.cells hok
  have hl := hok.len
  obtain ⟨L, hL⟩ : ∃ L, t.bits.length = L + 1 := ⟨t.bits.length - 1, by omega⟩
  have q0 := blk_new w (.cells #[.int .i64 (t.n : Nat), .slice (some ⟨g, off, none⟩) t.bits.length cap] 33 (0, 0))
  have B0 := below_more (Below.refl _ w) (.cells #[.int .i64 (t.n : Nat), .slice (some ⟨g, off, none⟩) t.bits.length cap] 33 (0, 0))
  have HCe : Hid (∀ j, j < t.bits.length → w.cell? ⟨g, off + j, none⟩ = some (.bool (t.bits.getD j false))) := hcells
  have HR : Hid (cls2 t.bits = (List.range (L + 1)).all fun k => t.bits.getD k false != t.bits.getD (L - k) false) := by show _ = _; unfold cls2; rw [hL]; rfl
  generalize cls2 t.bits = res at *
  generalize t.bits.length = M at *
  subst hL
  have hlI : (L : Int) ≤ 15 := by omega
  clear hcells h hok
  go_enter Try.func59, Try.ntmps59
  go_wp2_with fail
  go_loopg [13] (L + 1) (fun gk c wr => ∃ i, i ≤ L + 1 ∧ gk = L + 1 - i ∧ c = .int .i64 (i : Nat) ∧ Below w.heap.size w wr ∧ wr.heap[w.heap.size]? = some (.cells #[.int .i64 (t.n : Nat), .slice (some ⟨g, off, none⟩) (L + 1) cap] 33 (0, 0)) ∧ Hid (∀ j, j < i → (t.bits.getD j false != t.bits.getD (L - j) false) = true))
  case atStart => exact ⟨0, by omega, by omega, rfl, B0, q0, fun j h => absurd h (Nat.not_lt_zero _)⟩
  case round =>
    obtain ⟨i, hi, hg, rfl, hbr, q1, HN⟩ := hrel
    have HG : Hid (gk = L + 1 - i) := hg
    clear hg
    obtain ⟨a0, a1, -⟩ := blk2 q1
    by_cases hlt : i < L + 1
    · have g0 := (hbr.cell (p := ⟨g, off + i, none⟩) (lt_of_cell (HCe.out i hlt))).trans (HCe.out i hlt)
      obtain ⟨d, hd⟩ : ∃ d, L = d + i := ⟨L - i, by omega⟩
      have g1 := (hbr.cell (p := ⟨g, off + d, none⟩) (lt_of_cell (HCe.out d (by omega)))).trans (HCe.out d (by omega))
      have HX : Hid (∀ b, (t.bits.getD i false != t.bits.getD (L - i) false) = b → (b = true → ∀ j, j < i + 1 → (t.bits.getD j false != t.bits.getD (L - j) false) = true) ∧ (b = false → res = false)) := fun b hb => ⟨fun hbt j hj => by
          by_cases e : j = i
          · subst e; rw [hb]; exact hbt
          · exact HN.out j (by omega), fun hbf => by
          rw [HR.out]
          exact range_all_take _ _ i hlt HN.out (by rw [hb]; exact hbf)⟩
      have hLi : L - i = d := by omega
      rw [hLi] at HX
      generalize t.bits.getD i false = x at *
      generalize t.bits.getD d false = y at *
      have hltI : (i : Int) < (L : Int) + 1 := by omega
      have hlcI : (i : Int) < (cap : Int) := by omega
      have hdI : (L : Int) - (i : Int) = (d : Int) := by omega
      have hdc : (d : Int) < (cap : Int) := by omega
      have hdL : (d : Int) < (L : Int) + 1 := by omega
      clear hd hLi
      by_cases hxy : x = y
      · have HE : Hid (res = false) := (HX.out false (by subst hxy; simp)).2 rfl
        have hxe : (x == y) = true := by simpa using hxy
        clear HX hxy
        go_wp2_with fail
        go_ret
        exact ⟨by rw [HE.out]; rfl, hbr⟩
      · have HE : Hid (∀ j, j < i + 1 → (t.bits.getD j false != t.bits.getD (L - j) false) = true) := (HX.out true (by simpa using hxy)).1 rfl
        have hxe : (x == y) = false := by simpa using hxy
        clear HX hxy
        go_wp2_with fail
        go_roundg (L + 1 - (i + 1))
        case measure => have := HG.out; omega
        case rel => exact ⟨i + 1, by omega, rfl, by go_num, hbr, q1, HE⟩
    · have HE : Hid (res = true) := by
        show _ = _
        rw [HR.out]
        exact range_all _ _ fun j hj => HN.out j (by omega)
      have hge : ¬ (i : Int) < (L : Int) + 1 := by omega
      clear HN
      go_wp2_with fail
      go_ret
      exact ⟨by rw [HE.out]; rfl, hbr⟩

theorem or_row (r i : Nat) (n : Nat) (hn : n ≤ 4) (hr : r < 2 ^ n) (hi : i < n) : r ||| 2 ^ i < 2 ^ n ∧ bits BinOp.or IntKind.i64 (r : Int) ((2 ^ i : Nat) : Int) = ((r ||| 2 ^ i : Nat) : Int) := by
  have h1 : 2 ^ i < 2 ^ n := Nat.pow_lt_pow_right (by omega) hi
  refine ⟨Nat.or_lt_two_pow hr h1, ?_⟩
  have h2 : 2 ^ n ≤ 2 ^ 62 := Nat.pow_le_pow_right (by omega) (by omega)
  exact (bits_nat .i64 62 (by decide) wraps_i64 r (2 ^ i) (by omega) (by omega)).2

set_option maxHeartbeats 4000000 in
theorem rising_any (t : Tb) (hok : t.Ok) (v : Value) (w : World) (h : TR w t v) :
    Calls Try.prog 60 #[v] w fun e w' => e = .returned (.bool (cls3 t.n t.bits)) ∧ Below w.heap.size w w' := by
  obtain ⟨g, off, cap, rfl, hc, hcells⟩ := h.cells hok
  have hl := hok.len
  obtain ⟨hn4, hlen⟩ := hok
  have q0 := blk_new w (.cells #[.int .i64 (t.n : Nat), .slice (some ⟨g, off, none⟩) t.bits.length cap] 33 (0, 0))
  have B0 := below_more (Below.refl _ w) (.cells #[.int .i64 (t.n : Nat), .slice (some ⟨g, off, none⟩) t.bits.length cap] 33 (0, 0))
  have HCe : Hid (∀ j, j < t.bits.length → w.cell? ⟨g, off + j, none⟩ = some (.bool (t.bits.getD j false))) := hcells
  have HR : Hid (cls3 t.n t.bits = (List.range t.bits.length).all fun r => (List.range t.n).all fun i => !(t.bits.getD r false && !t.bits.getD (r ||| 2 ^ i) false)) := rfl
  generalize cls3 t.n t.bits = res at *
  have HLn : Hid (t.bits.length = 2 ^ t.n) := hlen
  clear hlen
  generalize t.bits.length = M at *
  have hMI : (M : Int) ≤ 16 := by omega
  obtain ⟨N, bs⟩ := t
  simp only at *
  have hNI : (N : Int) ≤ 4 := by omega
  clear hcells h
  go_enter Try.func60, Try.ntmps60
  go_wp2_with fail
  go_loopg [9] M (fun gk c wr => ∃ r, r ≤ M ∧ gk = M - r ∧ c = .int .i64 (r : Nat) ∧ Below w.heap.size w wr ∧ wr.heap[w.heap.size]? = some (.cells #[.int .i64 (N : Nat), .slice (some ⟨g, off, none⟩) M cap] 33 (0, 0)) ∧ Hid (∀ j, j < r → ((List.range N).all fun i => !(bs.getD j false && !bs.getD (j ||| 2 ^ i) false)) = true))
  case atStart => exact ⟨0, by omega, by omega, rfl, B0, q0, fun j h => absurd h (Nat.not_lt_zero _)⟩
  case round =>
    obtain ⟨r, hr, hg, rfl, hbr, q1, HN⟩ := hrel
    have HG : Hid (gk = M - r) := hg
    clear hg
    obtain ⟨a0, a1, -⟩ := blk2 q1
    by_cases hlt : r < M
    · have g0 := (hbr.cell (p := ⟨g, off + r, none⟩) (lt_of_cell (HCe.out r hlt))).trans (HCe.out r hlt)
      have HX1 : Hid (((List.range N).all fun i => !(bs.getD r false && !bs.getD (r ||| 2 ^ i) false)) = true → ∀ j, j < r + 1 → ((List.range N).all fun i => !(bs.getD j false && !bs.getD (j ||| 2 ^ i) false)) = true) := fun hb j hj => by
          by_cases e : j = r
          · subst e; exact hb
          · exact HN.out j (by omega)
      have HX2 : Hid (((List.range N).all fun i => !(bs.getD r false && !bs.getD (r ||| 2 ^ i) false)) = false → res = false) := fun hb => by
          rw [HR.out]
          exact range_all_take _ _ r hlt HN.out hb
      generalize bs.getD r false = x at *
      have hltI : (r : Int) < (M : Int) := by omega
      have hlcI : (r : Int) < (cap : Int) := by omega
      obtain ⟨W0, hW0⟩ : ∃ W0, W0 = wr := ⟨_, rfl⟩
      subst hW0
      go_wp2_with fail
      go_loopg [16] N (fun gk c wr => ∃ i, i ≤ N ∧ gk = N - i ∧ c = .int .i64 (i : Nat) ∧ Below W0.heap.size W0 wr ∧ Hid (∀ j, j < i → (!(x && !bs.getD (r ||| 2 ^ j) false)) = true))
      case atStart => exact ⟨0, by omega, by omega, rfl, Below.refl _ _, fun j h => absurd h (Nat.not_lt_zero _)⟩
      case round =>
        obtain ⟨i, hi, hg2, rfl, hbz, HY⟩ := hrel
        have HG2 : Hid (gk = N - i) := hg2
        clear hg2 g0 a0 a1
        have BZ := below_join hbr hbz
        have q2 := below_keep hbz q1
        obtain ⟨a0, a1, -⟩ := blk2 q2
        by_cases hiN : i < N
        · obtain ⟨hq1, hq2⟩ := or_row r i N hn4 (by have := HLn.out; omega) hiN
          have g1 := (BZ.cell (p := ⟨g, off + (r ||| 2 ^ i), none⟩) (lt_of_cell (HCe.out _ (by have := HLn.out; omega)))).trans (HCe.out (r ||| 2 ^ i) (by have := HLn.out; omega))
          have hqM : r ||| 2 ^ i < M := by have := HLn.out; omega
          have hw := (shl_row i (by omega)).1
          have HX3 : Hid ((!(x && !bs.getD (r ||| 2 ^ i) false)) = true → ∀ j, j < i + 1 → (!(x && !bs.getD (r ||| 2 ^ j) false)) = true) := fun hb j hj => by
            by_cases e : j = i
            · subst e; exact hb
            · exact HY.out j (by omega)
          have HX4 : Hid ((!(x && !bs.getD (r ||| 2 ^ i) false)) = false → res = false) := fun hb => HX2.out (range_all_take _ _ i hiN HY.out hb)
          generalize bs.getD (r ||| 2 ^ i) false = y at *
          generalize r ||| 2 ^ i = q at *
          generalize 2 ^ i = P at *
          have hiI : (i : Int) < (N : Int) := by omega
          have hqI : (q : Int) < (M : Int) := by omega
          have hqc : (q : Int) < (cap : Int) := by omega
          clear hq1 hqM
          cases x
          · have HE := HX3.out (by simp)
            have HE' : Hid (∀ j, j < i + 1 → (!(false && !bs.getD (r ||| 2 ^ j) false)) = true) := HE
            clear HE HX3 HX4 HX1 HX2
            go_wp2_with fail
            go_quiet (fail)
            go_wp2_with fail
            go_roundg (N - (i + 1))
            case measure => have := HG2.out; omega
            case rel => exact ⟨i + 1, by omega, rfl, by go_num, ⟨hbz.os, hbz.tape, hbz.output, hbz.size, hbz.block⟩, HE'⟩
          · cases y
            · have HE : Hid (res = false) := HX4.out (by simp)
              clear HX3 HX4 HX1 HX2
              go_wp2_with fail
              go_quiet (fail)
              go_wp2_with fail
              go_ret
              exact ⟨by rw [HE.out]; rfl, ⟨BZ.os, BZ.tape, BZ.output, BZ.size, BZ.block⟩⟩
            · have HE := HX3.out (by simp)
              have HE' : Hid (∀ j, j < i + 1 → (!(true && !bs.getD (r ||| 2 ^ j) false)) = true) := HE
              clear HE HX3 HX4 HX1 HX2
              go_wp2_with fail
              go_quiet (fail)
              go_wp2_with fail
              go_roundg (N - (i + 1))
              case measure => have := HG2.out; omega
              case rel => exact ⟨i + 1, by omega, rfl, by go_num, ⟨hbz.os, hbz.tape, hbz.output, hbz.size, hbz.block⟩, HE'⟩
        · have HE := HX1.out (range_all _ _ fun j hj => HY.out j (by omega))
          have HE' : Hid (∀ j, j < r + 1 → ((List.range N).all fun i => !(bs.getD j false && !bs.getD (j ||| 2 ^ i) false)) = true) := HE
          have hge : ¬ (i : Int) < (N : Int) := by omega
          clear HE HX1 HX2 HY
          go_wp2_with fail
          go_roundg (M - (r + 1))
          case measure => have := HG.out; omega
          case rel => exact ⟨r + 1, by omega, rfl, by go_num, BZ, q2, HE'⟩
    · have HE : Hid (res = true) := by
        show _ = _
        rw [HR.out]
        exact range_all _ _ fun j hj => HN.out j (by omega)
      have hge : ¬ (r : Int) < (M : Int) := by omega
      clear HN
      go_wp2_with fail
      go_ret
      exact ⟨by rw [HE.out]; rfl, hbr⟩
end Go.Proofs.Ytknngeojhiejnab
/- Walks: isSum. -/
namespace Go.Proofs.Ytknngeojhiejnab
open Go.RowKit

theorem below_same {B : Nat} {W w : World} (h : Below B W w) (k : Nat) : Below B W (w.drewN k) := ⟨h.os, h.tape, h.output, h.size, h.block⟩

set_option maxHeartbeats 4000000 in
theorem sum_any (t : Tb) (hok : t.Ok) (v : Value) (w : World) (h : TR w t v) :
    Calls Try.prog 61 #[v] w fun e w' => e = .returned (.bool (cls4 t.n t.bits)) ∧ Below w.heap.size w w' := by
  obtain ⟨g, off, cap, rfl, hc, hcells⟩ := h.cells hok
  have hl := hok.len
  obtain ⟨hn4, hlen⟩ := hok
  have q0 := blk_new w (.cells #[.int .i64 (t.n : Nat), .slice (some ⟨g, off, none⟩) t.bits.length cap] 33 (0, 0))
  have B0 := below_more (Below.refl _ w) (.cells #[.int .i64 (t.n : Nat), .slice (some ⟨g, off, none⟩) t.bits.length cap] 33 (0, 0))
  have HCe : Hid (∀ j, j < t.bits.length → w.cell? ⟨g, off + j, none⟩ = some (.bool (t.bits.getD j false))) := hcells
  have HR : Hid (cls4 t.n t.bits = (List.range t.bits.length).all fun r => !(sumTo t.bits r t.n != t.bits.getD r false)) := rfl
  generalize cls4 t.n t.bits = res at *
  have HLn : Hid (t.bits.length = 2 ^ t.n) := hlen
  clear hlen
  generalize t.bits.length = M at *
  have hMI : (M : Int) ≤ 16 := by omega
  have hM1 : (0 : Int) < (M : Int) := by omega
  have hc1 : (0 : Int) < (cap : Int) := by omega
  obtain ⟨N, bs⟩ := t
  simp only at *
  have hNI : (N : Int) ≤ 4 := by omega
  clear hcells h
  go_enter Try.func61, Try.ntmps61
  go_wp2_with fail
  go_loopg [11] M (fun gk c wr => ∃ r, r ≤ M ∧ gk = M - r ∧ c = .int .i64 (r : Nat) ∧ Below w.heap.size w wr ∧ wr.heap[w.heap.size]? = some (.cells #[.int .i64 (N : Nat), .slice (some ⟨g, off, none⟩) M cap] 33 (0, 0)) ∧ Hid (∀ j, j < r → (!(sumTo bs j N != bs.getD j false)) = true))
  case atStart => exact ⟨0, by omega, by omega, rfl, B0, q0, fun j h => absurd h (Nat.not_lt_zero _)⟩
  case round =>
    obtain ⟨r, hr, hg, rfl, hbr, q1, HN⟩ := hrel
    have HG : Hid (gk = M - r) := hg
    clear hg
    obtain ⟨a0, a1, -⟩ := blk2 q1
    by_cases hlt : r < M
    · have g0 := (hbr.cell (p := ⟨g, off + r, none⟩) (lt_of_cell (HCe.out r hlt))).trans (HCe.out r hlt)
      have z0 := (hbr.cell (p := ⟨g, off + 0, none⟩) (lt_of_cell (HCe.out 0 (by omega)))).trans (HCe.out 0 (by omega))
      rw [Nat.add_zero] at z0
      have HX1 : Hid ((!(sumTo bs r N != bs.getD r false)) = true → ∀ j, j < r + 1 → (!(sumTo bs j N != bs.getD j false)) = true) := fun hb j hj => by
          by_cases e : j = r
          · subst e; exact hb
          · exact HN.out j (by omega)
      have HX2 : Hid ((!(sumTo bs r N != bs.getD r false)) = false → res = false) := fun hb => by
          rw [HR.out]
          exact range_all_take _ _ r hlt HN.out hb
      have HS0 : Hid (sumTo bs r 0 = bs.getD 0 false) := by show _ = _; rw [sumTo]
      have HS1 : Hid (∀ i, sumTo bs r (i + 1) = if (bs.getD (2 ^ i) false != bs.getD 0 false) && r.testBit i then !sumTo bs r i else sumTo bs r i) := fun i => by rw [sumTo]
      generalize bs.getD 0 false = x0 at *
      generalize bs.getD r false = x at *
      have hltI : (r : Int) < (M : Int) := by omega
      have hlcI : (r : Int) < (cap : Int) := by omega
      obtain ⟨W0, hW0⟩ : ∃ W0, W0 = wr := ⟨_, rfl⟩
      subst hW0
      go_wp2_with fail
      go_loopg [22, 5] N (fun gk c s wr => ∃ i, i ≤ N ∧ gk = N - i ∧ c = .int .i64 (i : Nat) ∧ s = .bool (sumTo bs r i) ∧ Below W0.heap.size W0 wr)
      case atStart => exact ⟨0, by omega, by omega, rfl, by rw [HS0.out], Below.refl _ _⟩
      case round =>
        obtain ⟨i, hi, hg2, rfl, rfl, hbz⟩ := hrel
        have HG2 : Hid (gk = N - i) := hg2
        have z1 := (hbz.cell (p := ⟨g, off, none⟩) (lt_of_cell z0)).trans z0
        clear hg2 g0 a0 a1 z0
        have BZ := below_join hbr hbz
        have q2 := below_keep hbz q1
        obtain ⟨a0, a1, -⟩ := blk2 q2
        by_cases hiN : i < N
        · have hP : 2 ^ i < 2 ^ N := Nat.pow_lt_pow_right (by omega) hiN
          have hqM : 2 ^ i < M := by have := HLn.out; omega
          have g1 := (BZ.cell (p := ⟨g, off + 2 ^ i, none⟩) (lt_of_cell (HCe.out _ hqM))).trans (HCe.out (2 ^ i) hqM)
          have hw := (shl_row i (by omega)).1
          have HS2 : Hid (sumTo bs r (i + 1) = _) := HS1.out i
          have hdi := fun w => digit_any r i (by omega) (by omega) w
          obtain ⟨s1, hs1⟩ : ∃ s1, s1 = sumTo bs r (i + 1) := ⟨_, rfl⟩
          rw [← hs1] at HS2
          have HS3 : Hid (sumTo bs r (i + 1) = s1) := hs1.symm
          clear hs1
          generalize sumTo bs r i = s0 at *
          generalize bs.getD (2 ^ i) false = y at *
          generalize r.testBit i = d at *
          generalize 2 ^ i = P at *
          have HDi : Hid (∀ w, Calls Try.prog 70 _ w _) := hdi
          have hiI : (i : Int) < (N : Int) := by omega
          have hqI : (P : Int) < (M : Int) := by omega
          have hqc : (P : Int) < (cap : Int) := by omega
          clear hP hqM hdi
          by_cases hyx : y = x0
          · have hye : (y == x0) = true := by simpa using hyx
            have HE : Hid (s1 = s0) := by
              show _ = _
              rw [HS2.out, hyx]; simp
            clear HX1 HX2 HS1 HS0 HS2 hyx
            go_wp2_with fail
            go_quiet (fail)
            go_wp2_with fail
            go_roundg (N - (i + 1))
            case measure => have := HG2.out; omega
            case rel => exact ⟨i + 1, by omega, rfl, by go_num, by rw [HS3.out, HE.out], below_same hbz _⟩
          · have hye : (y == x0) = false := by simpa using hyx
            have HE : Hid (s1 = if d then !s0 else s0) := by
              show _ = _
              rw [HS2.out]; simp [hyx]
            clear HX1 HX2 HS1 HS0 HS2 hyx
            cases d
            all_goals
              go_wp2_with fail
              go_quiet (fail)
              go_wp2_with (first
                | (go_at_call 70
                   refine (HDi.out _).mono ?_
                   rintro e w3 ⟨rfl, hw3⟩
                   subst hw3)
                | fail)
              go_roundg (N - (i + 1))
              case measure => have := HG2.out; omega
              case rel => exact ⟨i + 1, by omega, rfl, by go_num, by rw [HS3.out, HE.out]; simp, below_same hbz _⟩
        · obtain rfl : i = N := by omega
          have hge : ¬ (i : Int) < (i : Int) := by omega
          generalize sumTo bs r i = s0 at *
          by_cases hsx : s0 = x
          · have HE := HX1.out (by subst hsx; simp)
            have HE' : Hid (∀ j, j < r + 1 → (!(sumTo bs j i != bs.getD j false)) = true) := HE
            have hse : (s0 == x) = true := by simpa using hsx
            clear HE HX1 HX2 hsx
            go_wp2_with fail
            go_roundg (M - (r + 1))
            case measure => have := HG.out; omega
            case rel => exact ⟨r + 1, by omega, rfl, by go_num, BZ, q2, HE'⟩
          · have hse : (s0 == x) = false := by simpa using hsx
            have HE : Hid (res = false) := HX2.out (by simp [hsx])
            clear HX1 HX2 hsx
            go_wp2_with fail
            go_ret
            exact ⟨by rw [HE.out]; rfl, BZ⟩
    · have HE : Hid (res = true) := by
        show _ = _
        rw [HR.out]
        exact range_all _ _ fun j hj => HN.out j (by omega)
      have hge : ¬ (r : Int) < (M : Int) := by omega
      clear HN
      go_wp2_with fail
      go_ret
      exact ⟨by rw [HE.out]; rfl, hbr⟩
end Go.Proofs.Ytknngeojhiejnab
