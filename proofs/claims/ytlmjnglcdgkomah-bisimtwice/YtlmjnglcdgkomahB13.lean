/- Texts of one proof, one behind the other: Tr10, BW1, BW8, MD1, MD2, MD5. -/
import Derived.Test.YtlmjnglcdgkomahB11
import Derived.Test.YtlmjnglcdgkomahB04
import Derived.Test.YtlmjnglcdgkomahB08
import Derived.Laws.BitsLemmas
import Derived.Deep.RegionHeld3
import Derived.Test.YtlmjnglcdgkomahB10
import Derived.Deep.RegionLaw
import Derived.Deep.DeepCutAuto
import Derived.Laws.EntriesVeiled
import Derived.Deep.Upon
import Derived.Lib.AppendZerosOnto
import Derived.Test.YtlmjnglcdgkomahB09
import Derived.Deep.AppendLies
/- Walks: isNoName, IndexFunc over texts, Value. -/
namespace Go.Proofs.Ytlmjnglcdgkomah
open Go.RowKit Go.Sort

theorem code_name (s : ByteArray) : (Fm.mk 1 s []).code = if isNm s.data.toList then (0, 0) else (8, 0) := by
  by_cases h : isNm s.data.toList = true
  · rw [if_pos h]
    (have := chk_fine (.mk 1 s []) 0 (by have := fine_name (l := s.data.toList) h; exact this) (by rw [size_leaf]; omega)); simp only [Fm.code, this]
  · rw [if_neg h]
    have hn : nodeF 1 s 0 = some 8 := by
      (have h1 : kindB 1 = true := by decide); (have h2 : kidsN 1 = 0 := by decide); (have h3 : nameB 1 s = true := by simp [nameB, h]); simp [nodeF, h1, h2, h3]
    have : chk (.mk 1 s []) 0 = .bad 8 0 := by
      rw [chk]; simp [hn]
    simp only [Fm.code, this]; rfl

theorem fault_code (a b : Int) (w : World) : (Instr.field 32 (.agg #[.int .i64 a, .int .i64 b]) 0).run Try.prog w = .ok (.int .i64 a) w := by kernel_rfl

/-- What is asked of texts, whatever they are. -/
structure PredS (fn : Nat) (cap : Array Value) (p : List UInt8 → Bool) (Ok : World → Prop) : Prop where
  up : ∀ {w w' : World}, Ok w → Below w.heap.size w w' → Ok w'
  ent : ∀ (v : Value) (w : World), (callFunc fn (#[v] ++ cap)).run Try.prog w = .ok (.enter fn (#[v] ++ cap)) w
  call : ∀ (t : List UInt8) (w : World), Ok w → t.length ≤ maxLen → Calls Try.prog fn (#[.string ⟨t.toArray⟩] ++ cap) w fun e w' => e = .returned (.bool (p t)) ∧ Below w.heap.size w w'

/-- Where it is so first, or -1. -/
def fIdxP (p : List UInt8 → Bool) (l : List (List UInt8)) : Int := if l.any p then (l.findIdx p : Nat) else -1

theorem findIdx_at {p : List UInt8 → Bool} {l : List (List UInt8)} {i : Nat} {t : List UInt8} (h : (l.take i).any p = false) (ht : l[i]? = some t) (hp : p t = true) : l.findIdx p = i := by
  have hi : i < l.length := by
    rcases Nat.lt_or_ge i l.length with h' | h'
    · exact h'
    · rw [List.getElem?_eq_none h'] at ht; cases ht
  rw [List.getElem?_eq_getElem hi] at ht; have e := Option.some.inj ht; rw [List.findIdx_eq hi]; (refine ⟨by rw [e]; exact hp, fun j hj => ?_⟩); (have := (List.any_eq_false.1 h) (l[j]'(by omega)) (List.mem_take_iff_getElem.2 ⟨j, by omega, rfl⟩)); simpa using this

set_option maxHeartbeats 2000000 in
theorem idxFunc_str {fn : Nat} {cp : Array Value} {p : List UInt8 → Bool} {Ok : World → Prop} (A : PredS fn cp p Ok) (l : List (List UInt8)) (hmx : ∀ t ∈ l, t.length ≤ maxLen) (v : Value) (w : World) (hv : SL w v l) (hok : Ok w) :
    Calls Try.prog 92 #[v, .func (.func fn) #[] cp] w fun e w' => e = .returned (.int .i64 (fIdxP p l)) ∧ Below w.heap.size w w' := by
  obtain ⟨ad, cap, rfl, h1, h2, h3⟩ := hv; (have hlI : (l.length : Int) ≤ 9223372036854775807 := by unfold maxLen at h2; omega); have H3 : Hid (l ≠ [] → ∃ g off, ad = some ⟨g, off, none⟩ ∧ ∀ (j : Nat) (t : List UInt8), l[j]? = some t → w.cell? ⟨g, off + j, none⟩ = some (.string ⟨t.toArray⟩)) := h3; (have HA : Hid (∀ (t : List UInt8) (w : World), Ok w → t.length ≤ maxLen → Calls Try.prog fn (#[.string ⟨t.toArray⟩] ++ cp) w fun e w' => e = .returned (.bool (p t)) ∧ Below w.heap.size w w') := A.call); have HU : Hid (∀ {w w' : World}, Ok w → Below w.heap.size w w' → Ok w') := A.up; have HMx : Hid (∀ t ∈ l, t.length ≤ maxLen) := hmx; have HO : Hid (Ok w) := hok; have hcf := A.ent; clear h3 hmx hok A
  go_enter Try.func92, Try.ntmps92
  go_wp2_with fail
  go_loopg [8] l.length (fun g c wr => ∃ i, i ≤ l.length ∧ g = l.length - i ∧ c = .int .i64 (i : Nat) ∧ Below w.heap.size w wr ∧ Hid ((l.take i).any p = false))
  case atStart => exact ⟨0, by omega, by omega, rfl, Below.refl _ _, by show _ = _; rfl⟩
  case round =>
    obtain ⟨i, hi, hg, rfl, hbr, HN⟩ := hrel; have HG : Hid (gk = l.length - i) := hg; clear hg; by_cases hlt : i < l.length
    · obtain ⟨t, ht⟩ : ∃ x, l[i]? = some x := ⟨_, List.getElem?_eq_getElem hlt⟩
      (obtain ⟨g, off, rfl, hc⟩ := H3.out (fun e => by rw [e] at hlt; simp at hlt)); have g0 := (hbr.cell (p := ⟨g, off + i, none⟩) (lt_of_cell (hc i t ht))).trans (hc i t ht); (have hltI : (i : Int) < (l.length : Int) := by omega); (have hlc : (i : Int) < (cap : Int) := by omega); have hcc := HA.out t wr (HU.out HO.out hbr) (HMx.out t (List.mem_of_getElem? ht))
      have HXi : Hid (p t = true → fIdxP p l = ((i : Nat) : Int)) := fun hp => by
        unfold fIdxP; rw [if_pos (List.any_eq_true.2 ⟨t, List.mem_of_getElem? ht, hp⟩), findIdx_at HN.out ht hp]
      have HXn : Hid (p t = false → (l.take (i + 1)).any p = false) := fun hp => by
        rw [List.take_add_one, ht, List.any_append, HN.out]; simp [hp]
      generalize p t = bb at *; have HCC : Hid (Calls Try.prog fn _ wr _) := hcc; generalize (⟨t.toArray⟩ : ByteArray) = T at *; clear hc ht H3 hcc; go_wp2_with fail; refine HCC.out.mono ?_; rintro e w1 ⟨rfl, hb1⟩; have B1 := below_join hbr hb1
      cases bb
      · have HX := HXn.out (by first | rfl | trivial)
        have HX' : Hid ((l.take (i + 1)).any p = false) := HX; clear HX HXn HXi; go_wp2_with fail
        go_roundg (l.length - (i + 1))
        case measure => have := HG.out; omega
        case rel => exact ⟨i + 1, by omega, rfl, by go_num, B1, HX'⟩
      · have HX := HXi.out (by first | rfl | trivial)
        have HX' : Hid (fIdxP p l = ((i : Nat) : Int)) := HX; clear HX HXn HXi; go_wp2_with fail; go_ret; (exact ⟨by rw [HX'.out]; rfl, B1⟩)
    · have HT : Hid (fIdxP p l = -1) := by
        have := HN.out; (rw [List.take_of_length_le (by omega)] at this); show _ = _; unfold fIdxP; rw [this]; rfl
      (have hge : ¬ (i : Int) < (l.length : Int) := by omega); clear H3 HN; go_wp2_with fail; go_ret; (exact ⟨by rw [HT.out]; rfl, hbr⟩)

end Go.Proofs.Ytlmjnglcdgkomah
/- Walks: lists of texts behind each other (slices.Grow, slices.Concat), and an append of texts. -/
namespace Go.Proofs.Ytlmjnglcdgkomah
open Go.RowKit Go.Sort

/-- Lists of texts in a list. -/
def SLs (w : World) (v : Value) (rs : List (List (List UInt8))) : Prop := ∃ ad cap, v = .slice ad rs.length cap ∧ rs.length ≤ cap ∧ cap ≤ maxLen ∧ (rs ≠ [] → ∃ b off, ad = some ⟨b, off, none⟩ ∧ ∀ (j : Nat) (r : List (List UInt8)), rs[j]? = some r → ∃ u, w.cell? ⟨b, off + j, none⟩ = some u ∧ SL w u r)
end Go.Proofs.Ytlmjnglcdgkomah
/- Walks: the names of several formulas, if they are plain and few (namesTogether). -/
namespace Go.Proofs.Ytlmjnglcdgkomah
open Go.RowKit Go.Sort

/-- What Compact leaves is one's own, too. -/
theorem uniq_own (base g cap : Nat) (zs : List (List UInt8)) (hl : zs.length ≤ 100000) (w : World) (hown : w.ownsRow base 9 1 (.slice (some ⟨g, 0, none⟩) zs.length cap) zs.length (zs.map encStr)) :
    Calls Try.prog 69 #[.slice (some ⟨g, 0, none⟩) zs.length cap] w fun e w' => e = .returned (.slice (some ⟨g, 0, none⟩) (Lib.compact zs).length cap) ∧ KS base w' (some ⟨g, 0, none⟩) cap (Lib.compact zs) ∧ w.grownBy w' (some g) := by
  have hcl := compact_len zs
  rcases hown.2 with ⟨h, -⟩ | ⟨g', cap', cur, hv, hg, hh, h1, h2, h3, h4⟩
  · cases h
  · cases hv
    rw [Nat.mul_one] at h4; have hH := holds_of_block hh h4; (refine (Try.slices_Compact_string g 0 cap zs w hH (by omega) h1).mono ?_); rintro e w' ⟨rfl, q, rfl⟩; refine ⟨rfl, ?_, ?_⟩
    · have hz : (Lib.compact zs ++ List.replicate (zs.length - (Lib.compact zs).length) []).length = zs.length := by simp; omega
      have := ownsRow_sorted (n := q) (os := #[]) hz hg hh h1 h2 h3; rw [grow_empty] at this; have h9 := owns_take this (Lib.compact zs).length hcl; (rw [List.map_append, List.take_append_of_le_length (by simp), List.take_of_length_le (by simp)] at h9); exact h9
    · have := grownBy_sorted (w := w) (g := g) (n := q) (os := #[]) (Lib.compact zs ++ List.replicate (zs.length - (Lib.compact zs).length) []).toArray
      rwa [grow_empty] at this
theorem sort_own (base g cap : Nat) (ss : List (List UInt8)) (hl : ss.length ≤ 100000) (w : World) (hown : KS base w (some ⟨g, 0, none⟩) cap ss) :
    Calls Try.prog 94 #[.slice (some ⟨g, 0, none⟩) ss.length cap] w fun e w' => e = .returned (.tuple #[]) ∧ w'.ownsRow base 9 1 (.slice (some ⟨g, 0, none⟩) ss.length cap) ss.length ((srt ss).map encStr) ∧ w.grownBy w' (some g) := by
  rcases hown.2 with ⟨h, -⟩ | ⟨g', cap', cur, hv, hg, hh, h1, h2, h3, h4⟩
  · cases h
  · cases hv
    rw [Nat.mul_one] at h4; (refine (Try.slices_Sort_string g 0 cap ss w (holds_of_block hh h4) (lt_of_block hh) (by omega)).mono ?_); rintro e w' ⟨rfl, n, os, rfl⟩; exact ⟨rfl, ownsRow_sorted (List.length_mergeSort ..) hg hh h1 h2 h3, grownBy_sorted _⟩

end Go.Proofs.Ytlmjnglcdgkomah
/- Models as data, in memory, and what is wrong with them. -/
namespace Go.Proofs.Ytlmjnglcdgkomah
open Go.RowKit

/-- A model: worlds, pairs, and the names of each world. -/
structure Mdl where
  n : Int
  rel : List (Int × Int)
  tr : List (List (List UInt8))
/-- Pairs in memory. -/
def PL (w : World) (v : Value) (rs : List (Int × Int)) : Prop := ∃ ad cap, v = .slice ad rs.length cap ∧ rs.length ≤ cap ∧ cap ≤ maxLen ∧ (rs ≠ [] → ∃ b off, ad = some ⟨b, off, none⟩ ∧ ∀ (j : Nat) (x y : Int), rs[j]? = some (x, y) → w.cell? ⟨b, off + j * 2, none⟩ = some (.int .i64 x) ∧ w.cell? ⟨b, off + j * 2 + 1, none⟩ = some (.int .i64 y))
theorem PL.up {w w' : World} {v : Value} {rs : List (Int × Int)} (h : PL w v rs) (hb : Below w.heap.size w w') : PL w' v rs := by
  obtain ⟨ad, cap, rfl, h1, h2, h3⟩ := h; (refine ⟨ad, cap, rfl, h1, h2, fun hne => ?_⟩); obtain ⟨b, off, rfl, hc⟩ := h3 hne; (refine ⟨b, off, rfl, fun j x y hj => ?_⟩); obtain ⟨c1, c2⟩ := hc j x y hj; exact ⟨(hb.cell (lt_of_cell c1)).trans c1, (hb.cell (lt_of_cell c2)).trans c2⟩
theorem SLs.upM {w w' : World} {v : Value} {rs : List (List (List UInt8))} (h : SLs w v rs) (hb : Below w.heap.size w w') : SLs w' v rs := by
  obtain ⟨ad, cap, rfl, h1, h2, h3⟩ := h; (refine ⟨ad, cap, rfl, h1, h2, fun hne => ?_⟩); obtain ⟨b, off, rfl, hc⟩ := h3 hne; (refine ⟨b, off, rfl, fun j r hj => ?_⟩); obtain ⟨u, c1, c2⟩ := hc j r hj; exact ⟨u, (hb.cell (lt_of_cell c1)).trans c1, c2.up hb⟩
/-- A model in memory. -/
def MR (w : World) (m : Mdl) (v : Value) : Prop := ∃ ra rc ta tc, v = .agg #[.int .i64 m.n, .slice ra m.rel.length rc, .slice ta m.tr.length tc] ∧ PL w (.slice ra m.rel.length rc) m.rel ∧ SLs w (.slice ta m.tr.length tc) m.tr ∧ ∀ l ∈ m.tr, ∀ t ∈ l, t.length ≤ maxLen
theorem MR.up {w w' : World} {m : Mdl} {v : Value} (h : MR w m v) (hb : Below w.heap.size w w') : MR w' m v := by
  obtain ⟨ra, rc, ta, tc, e, h1, h2, h3⟩ := h; exact ⟨ra, rc, ta, tc, e, h1.up hb, h2.upM hb, h3⟩
def pairBad (n : Int) (p : Int × Int) : Bool := decide (p.1 < 0) || decide (n ≤ p.1) || (decide (p.2 < 0) || decide (n ≤ p.2))
def wcode (l : List (List UInt8)) : Int := if 30 < l.length then 2 else if l.any (fun t => !isNm t) then 8 else 0
def wfirst : List (List (List UInt8)) → Nat → Int × Int
  | [], _ => (0, 0)
  | l :: ls, i => if wcode l = 0 then wfirst ls (i + 1) else (wcode l, (i : Nat))
/-- What is wrong with a model of at most so many worlds and pairs. -/
def mdcode (W P : Int) (m : Mdl) : Int × Int :=
  if m.n < 1 ∨ W < m.n ∨ P < (m.rel.length : Int) then (2, 0)
  else if (m.tr.length : Int) ≠ m.n then (9, 0)
  else if m.rel.any (pairBad m.n) then (3, ((m.rel.findIdx (pairBad m.n) : Nat) : Int))
  else wfirst m.tr 0
theorem any_take {α : Type} {l : List α} {p : α → Bool} {i : Nat} {x : α} (h : (l.take i).any p = false) (hx : l[i]? = some x) : (l.take (i + 1)).any p = p x := by
  rw [List.take_add_one, hx, List.any_append, h]
  simp
theorem findIdx_first {α : Type} {l : List α} {p : α → Bool} {i : Nat} {x : α} (h : (l.take i).any p = false) (hx : l[i]? = some x) (hp : p x = true) : l.findIdx p = i ∧ l.any p = true := by
  have hi : i < l.length := by
    rcases Nat.lt_or_ge i l.length with h | h
    · exact h
    · rw [List.getElem?_eq_none h] at hx; cases hx
  (have e : l[i] = x := by rw [List.getElem?_eq_getElem hi] at hx; exact Option.some.inj hx); refine ⟨?_, List.any_eq_true.2 ⟨x, List.mem_of_getElem? hx, hp⟩⟩; rw [List.findIdx_eq hi]; (refine ⟨by rw [e]; exact hp, fun j hj => ?_⟩); (have := (List.any_eq_false.1 h) (l[j]'(by omega)) (List.mem_take_iff_getElem.2 ⟨j, by omega, rfl⟩)); simpa using this
theorem wfirst_drop {ls : List (List (List UInt8))} {i : Nat} {l : List (List UInt8)} (h : ls[i]? = some l) (j : Nat) : wfirst (ls.drop i) j = if wcode l = 0 then wfirst (ls.drop (i + 1)) (j + 1) else (wcode l, ((j : Nat) : Int)) := by
  have hi : i < ls.length := by
    rcases Nat.lt_or_ge i ls.length with h1 | h1
    · exact h1
    · rw [List.getElem?_eq_none h1] at h; cases h
  (have e : ls[i] = l := by rw [List.getElem?_eq_getElem hi] at h; exact Option.some.inj h); rw [List.drop_eq_getElem_cons hi, e, wfirst]
end Go.Proofs.Ytlmjnglcdgkomah
/- Walks: what the yardstick says of a model. -/
namespace Go.Proofs.Ytlmjnglcdgkomah
open Go.RowKit

theorem blk_secM (w : World) (o o' : Obj) : ((w.alloc o).alloc o').heap[w.heap.size + 1]? = some o' := by
  have := blk_new (w.alloc o) o'; simpa using this
end Go.Proofs.Ytlmjnglcdgkomah
/- Lists copied: an append behind nothing, whatever the elements; pairs and lists of texts of one's own. -/
namespace Go.Proofs.Ytlmjnglcdgkomah
open Go.RowKit Go.Sort

theorem infoPr : ∃ i, Try.prog.info? 42 = some i ∧ i.zero = some (.agg #[.int .i64 0, .int .i64 0]) ∧ i.size = 2 ∧ i.bytes = 16 := by
  (obtain ⟨i, hi, h⟩ := Option.map_eq_some_iff.1 (show (Try.prog.info? 42).map (fun i => (i.zero, i.size, i.bytes)) = some (some (.agg #[.int .i64 0, .int .i64 0]), 2, 16) by kernel_rfl)); simp only [Prod.mk.injEq] at h; exact ⟨i, hi, h.1, h.2.1, h.2.2⟩
theorem infoTx : ∃ i, Try.prog.info? 80 = some i ∧ i.zero = some (.slice none 0 0) ∧ i.size = 1 ∧ i.bytes = 24 := by
  (obtain ⟨i, hi, h⟩ := Option.map_eq_some_iff.1 (show (Try.prog.info? 80).map (fun i => (i.zero, i.size, i.bytes)) = some (some (.slice none 0 0), 1, 24) by kernel_rfl)); simp only [Prod.mk.injEq] at h; exact ⟨i, hi, h.1, h.2.1, h.2.2⟩
/-- An append behind nothing. -/
theorem step_app0 {ops : Array Oper} {o : Oper} {a : Act} {w : World} {K : Act → World → Prop} {Q : Exit → Act → World → Prop} {E : Prop} (hgd : o.guard = none) (s x : Operand) (t : TypeId) (hop : o.op = Op.call { callee := Callee.builtin Builtin.append, args := #[s, x], argTypes := #[t, t] })
    (e : TypeId) (i0 : TypeInfo) (z : Value) (size bytes : Nat) (ht : Try.prog.underlying t = some (.slice e)) (hi : Try.prog.info? e = some i0) (hz : i0.zero = some z) (hsize : i0.size = size) (hby : i0.bytes = bytes) (hzs : z.cells.size = size) (hsz : 0 < size)
    (x0 : Option Addr) (m c : Nat) (news : List Value) (hs : a.eval s = .slice none 0 0) (hx : a.eval x = .slice x0 m c) (hl : news.length = m * size) (hn : 0 < m → ∃ b off, x0 = some ⟨b, off, none⟩ ∧ ∀ j u, news[j]? = some u → w.cell? ⟨b, off + j, none⟩ = some u) (h1 : ∀ u ∈ news, u.oneCell' = true) (hmx : m ≤ maxLen) (hmb : m * bytes ≤ 140737488355328)
    (h : ∀ ad3 cp3 w3, w3.ownsRow w.heap.size e size (.slice ad3 m cp3) m news → Below w.heap.size w w3 → K (a.put o.dst (.slice ad3 m cp3)) w3) : if Region.wanted o (yielded ops a.tmps) = true then Oper.wp Try.prog o a w K Q else E := by
  (have hw : Region.wanted o (yielded ops a.tmps) = true := by simp [Region.wanted, hgd]); rw [if_pos hw]; (have hown : w.ownsRow w.heap.size e size (.slice none 0 0) 0 [] := ⟨by simp, Or.inl ⟨rfl, rfl⟩⟩)
  rcases Nat.eq_zero_or_pos m with hm | hm
  · subst hm
    (have hnil : news = [] := List.length_eq_zero_iff.1 (by rw [hl]; omega)); subst hnil
    have hsrc : Src Try.prog i0.size t (.slice x0 0 c) 0 [] w := by
      cases x0 with
      | none => exact Src.ofNil w ht c
      | some ad => exact Src.ofSlice w ht ad 0 c [] (by simp) (fun j u h => by simp at h) (fun u h => by cases h)
    have hrun := run_append_nothing (P := Try.prog) w t t o.type e i0 ht hi none 0 0 (Nat.le_refl _) (.slice x0 0 c) hsrc; have h9 := h none 0 w hown (Below.refl _ _); unfold Oper.wp; simp [execOp, hop, resolve, invoke, builtin, hs, hx, hrun, Result.andThen]; exact h9
  · obtain ⟨b, off, rfl, hc⟩ := hn hm
    (refine wp_append_lies w s x t hop w.heap.size e i0 z size bytes ht hi hz hsize hby hzs hsz _ _ _ hs hown ⟨b, off, none⟩ m c news hx hl (fun j u hu => by rw [add_none]; exact hc j u hu) h1 hm (by omega) (by rw [Nat.zero_add]; exact hmb) (Nat.le_refl _) _ rfl ?_); intro g3 cp3 w3 hown3 hgrow hat hlt3; rw [Nat.zero_add, List.nil_append] at hown3; rw [Nat.zero_add]; (exact h _ _ w3 hown3 ⟨hgrow.os, hgrow.tape, hgrow.output, hgrow.size, fun b hb => hgrow.block b hb fun e => by cases e⟩)
/-- The cells of pairs. -/
def encP : List (Int × Int) → List Value
  | [] => []
  | p :: rs => .int .i64 p.1 :: .int .i64 p.2 :: encP rs
theorem encP_len : ∀ rs, (encP rs).length = rs.length * 2
  | [] => rfl
  | p :: rs => by rw [encP, List.length_cons, List.length_cons, encP_len rs, List.length_cons]; omega
theorem encP_one : ∀ rs, ∀ u ∈ encP rs, u.oneCell' = true
  | [], _, h => by cases h
  | p :: rs, u, h => by
    rw [encP] at h
    rcases List.mem_cons.1 h with rfl | h
    · rfl
    rcases List.mem_cons.1 h with rfl | h
    · rfl
    exact encP_one rs u h
theorem encP_at : ∀ (rs : List (Int × Int)) (j : Nat) (x y : Int), rs[j]? = some (x, y) → (encP rs)[j * 2]? = some (.int .i64 x) ∧ (encP rs)[j * 2 + 1]? = some (.int .i64 y)
  | [], j, x, y, h => by simp at h
  | p :: rs, 0, x, y, h => by
    simp at h; subst h
    exact ⟨rfl, rfl⟩
  | p :: rs, j + 1, x, y, h => by
    (have h9 := encP_at rs j x y (by simpa using h)); (rw [encP, show (j + 1) * 2 = j * 2 + 1 + 1 by omega]); exact h9
theorem encP_of : ∀ (rs : List (Int × Int)) (j : Nat) (u : Value), (encP rs)[j]? = some u → ∃ i x y, rs[i]? = some (x, y) ∧ ((j = i * 2 ∧ u = .int .i64 x) ∨ (j = i * 2 + 1 ∧ u = .int .i64 y))
  | [], j, u, h => by simp [encP] at h
  | p :: rs, 0, u, h => by
    simp [encP] at h
    exact ⟨0, p.1, p.2, rfl, Or.inl ⟨rfl, h.symm⟩⟩
  | p :: rs, 1, u, h => by
    simp [encP] at h
    exact ⟨0, p.1, p.2, rfl, Or.inr ⟨rfl, h.symm⟩⟩
  | p :: rs, j + 2, u, h => by
    (obtain ⟨i, x, y, h1, h2⟩ := encP_of rs j u (by simpa [encP] using h)); (refine ⟨i + 1, x, y, by simpa using h1, ?_⟩)
    rcases h2 with ⟨h2, h3⟩ | ⟨h2, h3⟩
    · exact Or.inl ⟨by omega, h3⟩
    · exact Or.inr ⟨by omega, h3⟩
theorem rowM_caps {B : Nat} {w : World} {T : TypeId} {sz n cap : Nat} {ad : Option Addr} {cs : List Value} (h : w.ownsRow B T sz (.slice ad n cap) n cs) : n ≤ cap ∧ cap ≤ maxLen := by
  rcases h.2 with ⟨hv, h0⟩ | ⟨g, cap', cur, hv, -, -, h1, h2, -⟩
  · simp only [Value.slice.injEq] at hv
    (exact ⟨by omega, by rw [hv.2.2]; simp⟩)
  · simp only [Value.slice.injEq, true_and] at hv
    rw [hv.2]; exact ⟨h1, h2⟩
theorem rowM_cells {B : Nat} {w : World} {T : TypeId} {sz n cap : Nat} {ad : Option Addr} {cs : List Value} (h : w.ownsRow B T sz (.slice ad n cap) n cs) (hn : 0 < n) : ∃ g, ad = some ⟨g, 0, none⟩ ∧ ∀ j u, cs[j]? = some u → w.cell? ⟨g, 0 + j, none⟩ = some u := by
  rcases h.2 with ⟨hv, h0⟩ | ⟨g, cap', cur, hv, -, hh, h1, h2, h3, h4⟩
  · omega
  · simp only [Value.slice.injEq, true_and] at hv
    (refine ⟨g, hv.1, fun j u hj => ?_⟩); rw [Nat.zero_add, blk_cell hh]; rw [← h4, List.getElem?_take] at hj
    split at hj
    · simpa using hj
    · cases hj
/-- A row of one's own over a world that keeps its block. -/
theorem rowM_move {B : Nat} {w w' : World} {T : TypeId} {sz n : Nat} {v : Value} {cs : List Value} (h : w.ownsRow B T sz v n cs) (hk : ∀ g cur, v.ownBlock = some g → w.heap[g]? = some (.cells cur T (0, 0)) → w'.heap[g]? = w.heap[g]?) : w'.ownsRow B T sz v n cs := by
  refine ⟨h.1, ?_⟩
  rcases h.2 with h2 | ⟨g, cap, cur, hv, hg, hh, r⟩
  · exact Or.inl h2
  · exact Or.inr ⟨g, cap, cur, hv, hg, (hk g cur (by rw [hv]; rfl) hh).trans hh, r⟩
theorem rowM_up {B : Nat} {w w' : World} {T : TypeId} {sz n : Nat} {v : Value} {cs : List Value} (h : w.ownsRow B T sz v n cs) (hb : Below w.heap.size w w') : w'.ownsRow B T sz v n cs :=
  rowM_move h fun g _ _ hh => hb.block g (lt_of_block hh)
theorem rowM_low {B B' : Nat} {w : World} {T : TypeId} {sz n : Nat} {v : Value} {cs : List Value} (h : w.ownsRow B T sz v n cs) (hB : B' ≤ B) : w.ownsRow B' T sz v n cs := by
  refine ⟨h.1, ?_⟩
  rcases h.2 with h2 | ⟨g, cap, cur, hv, hg, r⟩
  · exact Or.inl h2
  · exact Or.inr ⟨g, cap, cur, hv, Nat.le_trans hB hg, r⟩
/-- Pairs of one's own. -/
theorem PL.own {B : Nat} {w : World} {ad : Option Addr} {cp : Nat} {rs : List (Int × Int)} (h : w.ownsRow B 42 2 (.slice ad rs.length cp) rs.length (encP rs)) : PL w (.slice ad rs.length cp) rs := by
  obtain ⟨h1, h2⟩ := rowM_caps h; (refine ⟨ad, cp, rfl, h1, h2, fun hne => ?_⟩); obtain ⟨g, rfl, hc⟩ := rowM_cells h (List.length_pos_iff.2 hne); (refine ⟨g, 0, rfl, fun j x y hj => ?_⟩); obtain ⟨e1, e2⟩ := encP_at rs j x y hj; (exact ⟨hc _ _ e1, by have := hc _ _ e2; rwa [show 0 + (j * 2 + 1) = 0 + j * 2 + 1 by omega] at this⟩)
end Go.Proofs.Ytlmjnglcdgkomah
