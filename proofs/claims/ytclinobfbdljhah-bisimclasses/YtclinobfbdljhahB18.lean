/- Texts of one proof, one behind the other: NamesIn1, Tr10, TY2, TY4, CM1, BW1, MD1. -/
import Derived.Test.YtclinobfbdljhahB16
import Derived.Test.YtclinobfbdljhahB09
import Derived.Test.YtclinobfbdljhahB11
import Derived.Test.YtclinobfbdljhahB12
import Derived.Deep.RegionLaw
import Derived.Deep.DeepCutAuto
import Derived.Test.YtclinobfbdljhahB13
import Derived.Test.YtclinobfbdljhahB15
import Derived.Sort.Walk0
import Derived.Deep.AppendSrc
import Derived.Laws.BitsLemmas
import Derived.Deep.RegionHeld3
import Derived.Laws.EntriesVeiled
import Derived.Deep.Upon
import Derived.Lib.AppendZerosOnto
/- Walks: the names of a formula, as the yardstick tells them. -/
namespace Go.Proofs.Ytclinobfbdljhah
open Go.RowKit Go.Sort

/-- A list of texts that is being made. -/
def KS (B : Nat) (w : World) (ad : Option Addr) (cap : Nat) (l : List (List UInt8)) : Prop := w.ownsRow B 9 1 (.slice ad l.length cap) l.length (l.map encStr)
theorem KS.nil {B : Nat} {w : World} : KS B w none 0 [] := ⟨rfl, Or.inl ⟨rfl, rfl⟩⟩
theorem KS.up {B : Nat} {w w' : World} {ad : Option Addr} {cap : Nat} {l : List (List UInt8)} (h : KS B w ad cap l) (hb : Below w.heap.size w w') : KS B w' ad cap l := owns_up h hb
theorem KS.cell {B : Nat} {w : World} {g cap : Nat} {l : List (List UInt8)} (h : KS B w (some ⟨g, 0, none⟩) cap l) (j : Nat) (t : List UInt8) (ht : l[j]? = some t) : w.cell? ⟨g, j, none⟩ = some (.string ⟨t.toArray⟩) := by
  (have := h.cells (g := g) rfl j (encStr t) (by rw [List.getElem?_map, ht]; rfl)); rw [add_none, Nat.zero_add] at this; exact this
theorem KS.list {B : Nat} {w : World} {ad : Option Addr} {cap : Nat} {l : List (List UInt8)} (h : KS B w ad cap l) : TL w (.slice ad l.length cap) l := by
  have h' := h
  rcases h'.2 with ⟨hv, h0⟩ | ⟨g, cap', cur, hv, hg, hh, h1, h2, -⟩
  · simp only [Value.slice.injEq] at hv
    (exact ⟨ad, cap, rfl, by omega, by rw [hv.2.2]; simp, fun hne => absurd (List.length_eq_zero_iff.1 h0) hne⟩)
  · simp only [Value.slice.injEq, true_and] at hv
    obtain ⟨rfl, rfl⟩ := hv; (exact ⟨_, cap, rfl, h1, h2, fun _ => ⟨g, rfl, fun j t ht => h.cell j t ht⟩⟩)
theorem KS.ne {B : Nat} {w : World} {ad : Option Addr} {cap : Nat} {l : List (List UInt8)} (h : KS B w ad cap l) : (ad = none ∧ l = [] ∧ cap = 0) ∨ ∃ g, ad = some ⟨g, 0, none⟩ ∧ B ≤ g ∧ g < w.heap.size ∧ l.length ≤ cap ∧ cap ≤ maxLen := by
  rcases h.2 with ⟨hv, h0⟩ | ⟨g, cap', cur, hv, hg, hh, h1, h2, -⟩
  · simp only [Value.slice.injEq] at hv
    exact Or.inl ⟨hv.1, List.length_eq_zero_iff.1 h0, hv.2.2⟩
  · simp only [Value.slice.injEq, true_and] at hv
    obtain ⟨rfl, rfl⟩ := hv; exact Or.inr ⟨g, rfl, hg, lt_of_block hh, h1, h2⟩

theorem owns_take {w : World} {B g n cap : Nat} {T : TypeId} {xs : List Value} (h : w.ownsRow B T 1 (.slice (some ⟨g, 0, none⟩) n cap) n xs) (a : Nat) (ha : a ≤ n) : w.ownsRow B T 1 (.slice (some ⟨g, 0, none⟩) a cap) a (xs.take a) := by
  obtain ⟨h0, h⟩ := h
  rcases h with ⟨hv, -⟩ | ⟨g', cap', cur, hv, hg, hh, h1, h2, h3, h4⟩
  · cases hv
  · cases hv
    (refine ⟨by rw [List.length_take, h0]; omega, Or.inr ⟨g, cap, cur, rfl, hg, hh, by omega, h2, h3, ?_⟩⟩); rw [← h4, List.take_take]
    congr 1; omega

/-- Nothing appended. -/
theorem step_append_zero {P : Program} {ops : Array Oper} {o : Oper} {a : Act} {w : World} {K : Act → World → Prop} {Q : Exit → Act → World → Prop} {E : Prop} (hg : o.guard = none) (s x : Operand) (t : TypeId) (hop : o.op = Op.call { callee := Callee.builtin Builtin.append, args := #[s, x], argTypes := #[t, t] })
    (e : TypeId) (i : TypeInfo) (h1 : P.underlying t = some (.slice e)) (h2 : P.info? e = some i) (b off n cap : Nat) (hs : a.eval s = .slice (some ⟨b, off, none⟩) n cap) (hle : n ≤ cap) (x0 : Option Addr) (c : Nat) (hx : a.eval x = .slice x0 0 c)
    (hK : K (a.put o.dst (.slice (some ⟨b, off, none⟩) n cap)) w) : if Region.wanted o (yielded ops a.tmps) = true then Oper.wp P o a w K Q else E := by
  (have hw : Region.wanted o (yielded ops a.tmps) = true := by simp [Region.wanted, hg]); rw [if_pos hw]
  have hsrc : Src P i.size t (.slice x0 0 c) 0 [] w := by
    cases x0 with
    | none => exact Src.ofNil w h1 c
    | some ad => exact Src.ofSlice w h1 ad 0 c [] (by simp) (fun j u h => by simp at h) (fun u h => by cases h)
  (have hrun := run_append_room_src (P := P) w t t o.type e i h1 h2 b off n cap _ 0 [] hsrc (by omega) (fun j h => by simp at h) (fun j h => by simp at h)); (have hz : w.setCells b (off + n * i.size) [] = w := by simp [World.setCells]); rw [hz] at hrun; unfold Oper.wp; simp [execOp, hop, resolve, invoke, builtin, hs, hx, hrun, Result.andThen]; exact hK

theorem below_drewN {B : Nat} {w w' : World} (h : Below B w w') (n : Nat) : Below B w (w'.drewN n) := ⟨h.os, h.tape, h.output, h.size, h.block⟩
theorem enc_one (l : List (List UInt8)) : ∀ u ∈ l.map encStr, u.oneCell' = true := fun u hu => by
  obtain ⟨t, -, rfl⟩ := List.mem_map.1 hu; rfl
theorem KS.drop {B : Nat} {w : World} {g cap : Nat} {L : List (List UInt8)} (h : KS B w (some ⟨g, 0, none⟩) cap L) (a : Nat) : ∀ (j : Nat) (u : Value), ((L.drop a).map encStr)[j]? = some u → w.cell? ((⟨g, a, none⟩ : Addr).add j) = some u := fun j u hu => by
  rw [List.getElem?_map, List.getElem?_drop] at hu; obtain ⟨t, ht, rfl⟩ := Option.map_eq_some_iff.1 hu; rw [add_none]; exact h.cell (a + j) t ht
theorem KS.take {B : Nat} {w : World} {g cap : Nat} {L : List (List UInt8)} (h : KS B w (some ⟨g, 0, none⟩) cap L) (a : Nat) (ha : a ≤ L.length) : w.ownsRow B 9 1 (.slice (some ⟨g, 0, none⟩) a cap) a ((L.take a).map encStr) := by
  have := owns_take h a ha
  rwa [← List.map_take] at this
theorem KS.keep {B : Nat} {w w' : World} {g cap : Nat} {L : List (List UInt8)} (h : KS B w (some ⟨g, 0, none⟩) cap L) (he : w'.heap[g]? = w.heap[g]?) : KS B w' (some ⟨g, 0, none⟩) cap L := by
  obtain ⟨h1, h2⟩ := h; refine ⟨h1, ?_⟩
  rcases h2 with ⟨hv, -⟩ | ⟨g', cap', cur, hv, hg, hh, r⟩
  · cases hv
  · cases hv
    exact Or.inr ⟨g, cap, cur, rfl, hg, he.trans hh, r⟩

theorem mem_ins (L : List (List UInt8)) (t : List UInt8) (a : Nat) (x : List UInt8) : x ∈ L.take a ++ t :: L.drop a ↔ x ∈ L ∨ x = t := by
  have h := List.mem_append (a := x) (s := L.take a) (t := L.drop a); rw [List.take_append_drop] at h; rw [List.mem_append, List.mem_cons, h]
  constructor
  · rintro (h | h | h)
    · exact Or.inl (Or.inl h)
    · exact Or.inr h
    · exact Or.inl (Or.inr h)
  · rintro ((h | h) | h)
    · exact Or.inl h
    · exact Or.inr (Or.inr h)
    · exact Or.inr (Or.inl h)

/-- A name behind all others. -/
theorem app_end {B : Nat} {W w w5 : World} {ad : Option Addr} {cy g5 cp5 q : Nat} {o : Obj} {L : List (List UInt8)} {t : List UInt8} (hB : Below B W w) (hBs : B ≤ w.heap.size) (hk : KS B w ad cy L)
    (hg5 : ((w.drewN q).alloc o).grownBy w5 (Value.slice ad L.length cy).ownBlock) (ho : w5.ownsRow B 9 1 (.slice (some ⟨g5, 0, none⟩) (L.length + 1) cp5) (L.length + 1) (L.map encStr ++ [encStr t])) :
    KS B w5 (some ⟨g5, 0, none⟩) cp5 (L ++ [t]) ∧ Below B W w5 := by
  constructor
  · unfold KS
    rw [List.map_append, List.length_append]; exact ho
  · have h1 : Below B W ((w.drewN q).alloc o) := (below_drewN hB q).alloc hBs o
    (exact h1.trans ⟨hg5.os, hg5.tape, hg5.output, hg5.size, fun j hj => hg5.block j (by simp; omega) (fun e => by have := (World.ownsRow.lt hk j e.symm).1; omega)⟩)

/-- A name at its place: what the two appends leave. -/
theorem ins_end {B : Nat} {W w w4 w5 : World} {gL g5 cp5 a m q : Nat} {o : Obj} {L : List (List UInt8)} {t : List UInt8} (hB : Below B W w) (hBs : B ≤ w.heap.size) (hgB : B ≤ gL) (hm : a + m = (L.take a ++ t :: L.drop a).length)
    (hg4 : ((w.drewN q).alloc o).grownBy w4 (some w.heap.size)) (hg5 : w4.grownBy w5 (some gL)) (ho : w5.ownsRow B 9 1 (.slice (some ⟨g5, 0, none⟩) (a + m) cp5) (a + m) ((L.take a).map encStr ++ (t :: L.drop a).map encStr)) :
    KS B w5 (some ⟨g5, 0, none⟩) cp5 (L.take a ++ t :: L.drop a) ∧ Below B W w5 := by
  constructor
  · unfold KS
    rw [hm] at ho; rw [List.map_append]; exact ho
  · have h1 : Below B W ((w.drewN q).alloc o) := (below_drewN hB q).alloc hBs o
    (have h2 : Below B W w4 := h1.trans ⟨hg4.os, hg4.tape, hg4.output, hg4.size, fun j hj => hg4.block j (by simp; omega) (fun e => by have : j = w.heap.size := Option.some.inj e; omega)⟩)
    have hs4 : w.heap.size ≤ w4.heap.size := by
      have h := hg4.size; simp at h; omega
    (exact h2.trans ⟨hg5.os, hg5.tape, hg5.output, hg5.size, fun j hj => hg5.block j (by omega) (fun e => by have : j = gL := Option.some.inj e; omega)⟩)

end Go.Proofs.Ytclinobfbdljhah
/- Walks: isNoName, IndexFunc over texts, Value. -/
namespace Go.Proofs.Ytclinobfbdljhah
open Go.RowKit Go.Sort

theorem code_name (s : ByteArray) : (Fm.mk 1 s []).code = if isNm s.data.toList then (0, 0) else (8, 0) := by
  by_cases h : isNm s.data.toList = true
  · rw [if_pos h]
    (have := chk_fine (.mk 1 s []) 0 (by have := fine_name (l := s.data.toList) h; exact this) (by rw [size_leaf]; omega)); simp only [Fm.code, this]
  · rw [if_neg h]
    have hn : nodeF 1 s 0 = some 8 := by
      (have h1 : kindB 1 = true := by decide); (have h2 : kidsN 1 = 0 := by decide); (have h3 : nameB 1 s = true := by simp [nameB, h]); simp [nodeF, h1, h2, h3]
    have : chk (.mk 1 s []) 0 = .bad 8 0 := by
      rw [chk]; simp [hn]
    simp only [Fm.code, this]; rfl

theorem fault_code (a b : Int) (w : World) : (Instr.field 32 (.agg #[.int .i64 a, .int .i64 b]) 0).run Try.prog w = .ok (.int .i64 a) w := by kernel_rfl

/-- What is asked of texts, whatever they are. -/
structure PredS (fn : Nat) (cap : Array Value) (p : List UInt8 → Bool) (Ok : World → Prop) : Prop where
  up : ∀ {w w' : World}, Ok w → Below w.heap.size w w' → Ok w'
  ent : ∀ (v : Value) (w : World), (callFunc fn (#[v] ++ cap)).run Try.prog w = .ok (.enter fn (#[v] ++ cap)) w
  call : ∀ (t : List UInt8) (w : World), Ok w → t.length ≤ maxLen → Calls Try.prog fn (#[.string ⟨t.toArray⟩] ++ cap) w fun e w' => e = .returned (.bool (p t)) ∧ Below w.heap.size w w'

/-- Where it is so first, or -1. -/
def fIdxP (p : List UInt8 → Bool) (l : List (List UInt8)) : Int := if l.any p then (l.findIdx p : Nat) else -1

theorem findIdx_at {p : List UInt8 → Bool} {l : List (List UInt8)} {i : Nat} {t : List UInt8} (h : (l.take i).any p = false) (ht : l[i]? = some t) (hp : p t = true) : l.findIdx p = i := by
  have hi : i < l.length := by
    rcases Nat.lt_or_ge i l.length with h' | h'
    · exact h'
    · rw [List.getElem?_eq_none h'] at ht; cases ht
  rw [List.getElem?_eq_getElem hi] at ht; have e := Option.some.inj ht; rw [List.findIdx_eq hi]; (refine ⟨by rw [e]; exact hp, fun j hj => ?_⟩); (have := (List.any_eq_false.1 h) (l[j]'(by omega)) (List.mem_take_iff_getElem.2 ⟨j, by omega, rfl⟩)); simpa using this

set_option maxHeartbeats 2000000 in
theorem idxFunc_str {fn : Nat} {cp : Array Value} {p : List UInt8 → Bool} {Ok : World → Prop} (A : PredS fn cp p Ok) (l : List (List UInt8)) (hmx : ∀ t ∈ l, t.length ≤ maxLen) (v : Value) (w : World) (hv : SL w v l) (hok : Ok w) :
    Calls Try.prog 92 #[v, .func (.func fn) #[] cp] w fun e w' => e = .returned (.int .i64 (fIdxP p l)) ∧ Below w.heap.size w w' := by
  obtain ⟨ad, cap, rfl, h1, h2, h3⟩ := hv; (have hlI : (l.length : Int) ≤ 9223372036854775807 := by unfold maxLen at h2; omega); have H3 : Hid (l ≠ [] → ∃ g off, ad = some ⟨g, off, none⟩ ∧ ∀ (j : Nat) (t : List UInt8), l[j]? = some t → w.cell? ⟨g, off + j, none⟩ = some (.string ⟨t.toArray⟩)) := h3; (have HA : Hid (∀ (t : List UInt8) (w : World), Ok w → t.length ≤ maxLen → Calls Try.prog fn (#[.string ⟨t.toArray⟩] ++ cp) w fun e w' => e = .returned (.bool (p t)) ∧ Below w.heap.size w w') := A.call); have HU : Hid (∀ {w w' : World}, Ok w → Below w.heap.size w w' → Ok w') := A.up; have HMx : Hid (∀ t ∈ l, t.length ≤ maxLen) := hmx; have HO : Hid (Ok w) := hok; have hcf := A.ent; clear h3 hmx hok A
  go_enter Try.func92, Try.ntmps92
  go_wp2_with fail
  go_loopg [8] l.length (fun g c wr => ∃ i, i ≤ l.length ∧ g = l.length - i ∧ c = .int .i64 (i : Nat) ∧ Below w.heap.size w wr ∧ Hid ((l.take i).any p = false))
  case atStart => exact ⟨0, by omega, by omega, rfl, Below.refl _ _, by show _ = _; rfl⟩
  case round =>
    obtain ⟨i, hi, hg, rfl, hbr, HN⟩ := hrel; have HG : Hid (gk = l.length - i) := hg; clear hg; by_cases hlt : i < l.length
    · obtain ⟨t, ht⟩ : ∃ x, l[i]? = some x := ⟨_, List.getElem?_eq_getElem hlt⟩
      (obtain ⟨g, off, rfl, hc⟩ := H3.out (fun e => by rw [e] at hlt; simp at hlt)); have g0 := (hbr.cell (p := ⟨g, off + i, none⟩) (lt_of_cell (hc i t ht))).trans (hc i t ht); (have hltI : (i : Int) < (l.length : Int) := by omega); (have hlc : (i : Int) < (cap : Int) := by omega); have hcc := HA.out t wr (HU.out HO.out hbr) (HMx.out t (List.mem_of_getElem? ht))
      have HXi : Hid (p t = true → fIdxP p l = ((i : Nat) : Int)) := fun hp => by
        unfold fIdxP; rw [if_pos (List.any_eq_true.2 ⟨t, List.mem_of_getElem? ht, hp⟩), findIdx_at HN.out ht hp]
      have HXn : Hid (p t = false → (l.take (i + 1)).any p = false) := fun hp => by
        rw [List.take_add_one, ht, List.any_append, HN.out]; simp [hp]
      generalize p t = bb at *; have HCC : Hid (Calls Try.prog fn _ wr _) := hcc; generalize (⟨t.toArray⟩ : ByteArray) = T at *; clear hc ht H3 hcc; go_wp2_with fail; refine HCC.out.mono ?_; rintro e w1 ⟨rfl, hb1⟩; have B1 := below_join hbr hb1
      cases bb
      · have HX := HXn.out (by first | rfl | trivial)
        have HX' : Hid ((l.take (i + 1)).any p = false) := HX; clear HX HXn HXi; go_wp2_with fail
        go_roundg (l.length - (i + 1))
        case measure => have := HG.out; omega
        case rel => exact ⟨i + 1, by omega, rfl, by go_num, B1, HX'⟩
      · have HX := HXi.out (by first | rfl | trivial)
        have HX' : Hid (fIdxP p l = ((i : Nat) : Int)) := HX; clear HX HXn HXi; go_wp2_with fail; go_ret; (exact ⟨by rw [HX'.out]; rfl, B1⟩)
    · have HT : Hid (fIdxP p l = -1) := by
        have := HN.out; (rw [List.take_of_length_le (by omega)] at this); show _ = _; unfold fIdxP; rw [this]; rfl
      (have hge : ¬ (i : Int) < (l.length : Int) := by omega); clear H3 HN; go_wp2_with fail; go_ret; (exact ⟨by rw [HT.out]; rfl, hbr⟩)

end Go.Proofs.Ytclinobfbdljhah
/- Walks: the yardstick's HasText, True, Row. -/
namespace Go.Proofs.Ytclinobfbdljhah
open Go.RowKit Go.Sort

set_option maxHeartbeats 1000000 in
theorem hasText_sl (l : List (List UInt8)) (t : List UInt8) (v : Value) (w : World) (h : SL w v l) :
    Calls Try.prog 45 #[v, .string ⟨t.toArray⟩] w fun e w' => e = .returned (.bool (decide (t ∈ l))) ∧ w' = w := by
  obtain ⟨ad, cap, rfl, h1, h2, h3⟩ := h; (have hlI : (l.length : Int) ≤ 9223372036854775807 := by unfold maxLen at h2; omega); have H3 : Hid (l ≠ [] → ∃ g off, ad = some ⟨g, off, none⟩ ∧ ∀ (j : Nat) (t : List UInt8), l[j]? = some t → w.cell? ⟨g, off + j, none⟩ = some (.string ⟨t.toArray⟩)) := h3; clear h3
  go_enter Try.func45, Try.ntmps45
  go_wp2_with fail
  go_loopg [5] l.length (fun g c wr => ∃ i, i ≤ l.length ∧ g = l.length - i ∧ c = .int .i64 (i : Nat) ∧ wr = w ∧ Hid (t ∉ l.take i))
  case atStart => exact ⟨0, by omega, by omega, rfl, rfl, by show _ ∉ _; simp⟩
  case round =>
    obtain ⟨i, hi, hg, rfl, rfl, HN⟩ := hrel; have HG : Hid (gk = l.length - i) := hg; clear hg; by_cases hlt : i < l.length
    · obtain ⟨x, hx⟩ : ∃ x, l[i]? = some x := ⟨_, List.getElem?_eq_getElem hlt⟩
      (obtain ⟨g, off, rfl, hc⟩ := H3.out (fun e => by rw [e] at hlt; simp at hlt)); have g0 := hc i x hx; (have hltI : (i : Int) < (l.length : Int) := by omega); (have hlc : (i : Int) < (cap : Int) := by omega); have HX : Hid (l[i]? = some x) := hx; clear hc hx H3; by_cases hxt : x = t
      · subst hxt
        have HD : Hid (decide (x ∈ l) = true) := by
          show _ = _; exact decide_eq_true (List.mem_of_getElem? HX.out)
        go_wp2_with fail; go_ret; (exact ⟨by rw [HD.out]; rfl, rfl⟩)
      · have hne : ((⟨x.toArray⟩ : ByteArray).toList == (⟨t.toArray⟩ : ByteArray).toList) = false := by
          rw [beq_eq_false_iff_ne, Ne, txt_eq]; exact hxt
        have HNN : Hid (t ∉ l.take (i + 1)) := by
          show _ ∉ _; rw [List.take_add_one, HX.out]; intro hm
          rcases List.mem_append.1 hm with h | h
          · exact HN.out h
          · simp at h; exact hxt h.symm
        generalize hb : (⟨x.toArray⟩ : ByteArray) = X at *; generalize hb2 : (⟨t.toArray⟩ : ByteArray) = Y at *; clear hb hb2 HX; go_wp2_with fail
        go_roundg (l.length - (i + 1))
        case measure => have := HG.out; omega
        case rel => exact ⟨i + 1, by omega, rfl, by go_num, rfl, HNN⟩
    · have HD : Hid (decide (t ∈ l) = false) := by
        show _ = _; have := HN.out; (rw [List.take_of_length_le (by omega)] at this); exact decide_eq_false this
      (have hge : ¬ (i : Int) < (l.length : Int) := by omega); clear H3 HN; go_wp2_with fail; go_ret; (exact ⟨by rw [HD.out]; rfl, rfl⟩)

/-! The yardstick's row. -/
end Go.Proofs.Ytclinobfbdljhah
/- Walks: the yardstick's PlainFault. -/
namespace Go.Proofs.Ytclinobfbdljhah
open Go.RowKit Go.Sort

set_option maxHeartbeats 1000000 in
theorem mkF_any (c a : Int) (w : World) : Calls Try.prog 37 #[.int .i64 c, .int .i64 a] w fun e w' => e = .returned (.agg #[.int .i64 c, .int .i64 a]) ∧ Below w.heap.size w w' := by
  have B := below_more (Below.refl _ w) (.cells #[.int .i64 c, .int .i64 a] 32 (0, 0))
  go_enter Try.func37, Try.ntmps37
  go_wp2_with fail; (exact bodyPost_ret (v := .agg #[.int .i64 c, .int .i64 a]) (by simp [results, Try.results37, go_sem]) rfl ⟨rfl, B⟩)

end Go.Proofs.Ytclinobfbdljhah
/- Proofs as data, and what the checker says of them. -/
namespace Go.Proofs.Ytclinobfbdljhah

instance : BEq Fm := ⟨sameB⟩
instance : LawfulBEq Fm where
  eq_of_beq := fun {a b} h => sameB_eq a b h
  rfl := fun {a} => sameB_refl a
instance : DecidableEq Fm := fun a b => if h : (a == b) = true then isTrue (eq_of_beq h) else isFalse fun e => h (by rw [e]; exact sameB_refl b)

def Fm.kidA : Fm → Fm
  | .mk _ _ (a :: _) => a
  | f => f
def Fm.kidB : Fm → Fm
  | .mk _ _ (_ :: b :: _) => b
  | f => f

/-! What is proved is true. -/
end Go.Proofs.Ytclinobfbdljhah
/- Walks: lists of texts behind each other (slices.Grow, slices.Concat), and an append of texts. -/
namespace Go.Proofs.Ytclinobfbdljhah
open Go.RowKit Go.Sort

/-- Lists of texts in a list. -/
def SLs (w : World) (v : Value) (rs : List (List (List UInt8))) : Prop := ∃ ad cap, v = .slice ad rs.length cap ∧ rs.length ≤ cap ∧ cap ≤ maxLen ∧ (rs ≠ [] → ∃ b off, ad = some ⟨b, off, none⟩ ∧ ∀ (j : Nat) (r : List (List UInt8)), rs[j]? = some r → ∃ u, w.cell? ⟨b, off + j, none⟩ = some u ∧ SL w u r)
end Go.Proofs.Ytclinobfbdljhah
/- Models as data, in memory, and what is wrong with them. -/
namespace Go.Proofs.Ytclinobfbdljhah
open Go.RowKit

/-- A model: worlds, pairs, and the names of each world. -/
structure Mdl where
  n : Int
  rel : List (Int × Int)
  tr : List (List (List UInt8))
/-- Pairs in memory. -/
def PL (w : World) (v : Value) (rs : List (Int × Int)) : Prop := ∃ ad cap, v = .slice ad rs.length cap ∧ rs.length ≤ cap ∧ cap ≤ maxLen ∧ (rs ≠ [] → ∃ b off, ad = some ⟨b, off, none⟩ ∧ ∀ (j : Nat) (x y : Int), rs[j]? = some (x, y) → w.cell? ⟨b, off + j * 2, none⟩ = some (.int .i64 x) ∧ w.cell? ⟨b, off + j * 2 + 1, none⟩ = some (.int .i64 y))
theorem PL.up {w w' : World} {v : Value} {rs : List (Int × Int)} (h : PL w v rs) (hb : Below w.heap.size w w') : PL w' v rs := by
  obtain ⟨ad, cap, rfl, h1, h2, h3⟩ := h; (refine ⟨ad, cap, rfl, h1, h2, fun hne => ?_⟩); obtain ⟨b, off, rfl, hc⟩ := h3 hne; (refine ⟨b, off, rfl, fun j x y hj => ?_⟩); obtain ⟨c1, c2⟩ := hc j x y hj; exact ⟨(hb.cell (lt_of_cell c1)).trans c1, (hb.cell (lt_of_cell c2)).trans c2⟩
theorem SLs.upM {w w' : World} {v : Value} {rs : List (List (List UInt8))} (h : SLs w v rs) (hb : Below w.heap.size w w') : SLs w' v rs := by
  obtain ⟨ad, cap, rfl, h1, h2, h3⟩ := h; (refine ⟨ad, cap, rfl, h1, h2, fun hne => ?_⟩); obtain ⟨b, off, rfl, hc⟩ := h3 hne; (refine ⟨b, off, rfl, fun j r hj => ?_⟩); obtain ⟨u, c1, c2⟩ := hc j r hj; exact ⟨u, (hb.cell (lt_of_cell c1)).trans c1, c2.up hb⟩
/-- A model in memory. -/
def MR (w : World) (m : Mdl) (v : Value) : Prop := ∃ ra rc ta tc, v = .agg #[.int .i64 m.n, .slice ra m.rel.length rc, .slice ta m.tr.length tc] ∧ PL w (.slice ra m.rel.length rc) m.rel ∧ SLs w (.slice ta m.tr.length tc) m.tr ∧ ∀ l ∈ m.tr, ∀ t ∈ l, t.length ≤ maxLen
theorem MR.up {w w' : World} {m : Mdl} {v : Value} (h : MR w m v) (hb : Below w.heap.size w w') : MR w' m v := by
  obtain ⟨ra, rc, ta, tc, e, h1, h2, h3⟩ := h; exact ⟨ra, rc, ta, tc, e, h1.up hb, h2.upM hb, h3⟩
def pairBad (n : Int) (p : Int × Int) : Bool := decide (p.1 < 0) || decide (n ≤ p.1) || (decide (p.2 < 0) || decide (n ≤ p.2))
def wcode (l : List (List UInt8)) : Int := if 30 < l.length then 2 else if l.any (fun t => !isNm t) then 8 else 0
def wfirst : List (List (List UInt8)) → Nat → Int × Int
  | [], _ => (0, 0)
  | l :: ls, i => if wcode l = 0 then wfirst ls (i + 1) else (wcode l, (i : Nat))
/-- What is wrong with a model of at most so many worlds and pairs. -/
def mdcode (W P : Int) (m : Mdl) : Int × Int :=
  if m.n < 1 ∨ W < m.n ∨ P < (m.rel.length : Int) then (2, 0)
  else if (m.tr.length : Int) ≠ m.n then (9, 0)
  else if m.rel.any (pairBad m.n) then (3, ((m.rel.findIdx (pairBad m.n) : Nat) : Int))
  else wfirst m.tr 0
theorem any_take {α : Type} {l : List α} {p : α → Bool} {i : Nat} {x : α} (h : (l.take i).any p = false) (hx : l[i]? = some x) : (l.take (i + 1)).any p = p x := by
  rw [List.take_add_one, hx, List.any_append, h]
  simp
theorem findIdx_first {α : Type} {l : List α} {p : α → Bool} {i : Nat} {x : α} (h : (l.take i).any p = false) (hx : l[i]? = some x) (hp : p x = true) : l.findIdx p = i ∧ l.any p = true := by
  have hi : i < l.length := by
    rcases Nat.lt_or_ge i l.length with h | h
    · exact h
    · rw [List.getElem?_eq_none h] at hx; cases hx
  (have e : l[i] = x := by rw [List.getElem?_eq_getElem hi] at hx; exact Option.some.inj hx); refine ⟨?_, List.any_eq_true.2 ⟨x, List.mem_of_getElem? hx, hp⟩⟩; rw [List.findIdx_eq hi]; (refine ⟨by rw [e]; exact hp, fun j hj => ?_⟩); (have := (List.any_eq_false.1 h) (l[j]'(by omega)) (List.mem_take_iff_getElem.2 ⟨j, by omega, rfl⟩)); simpa using this
theorem wfirst_drop {ls : List (List (List UInt8))} {i : Nat} {l : List (List UInt8)} (h : ls[i]? = some l) (j : Nat) : wfirst (ls.drop i) j = if wcode l = 0 then wfirst (ls.drop (i + 1)) (j + 1) else (wcode l, ((j : Nat) : Int)) := by
  have hi : i < ls.length := by
    rcases Nat.lt_or_ge i ls.length with h1 | h1
    · exact h1
    · rw [List.getElem?_eq_none h1] at h; cases h
  (have e : ls[i] = l := by rw [List.getElem?_eq_getElem hi] at h; exact Option.some.inj h); rw [List.drop_eq_getElem_cons hi, e, wfirst]
end Go.Proofs.Ytclinobfbdljhah
