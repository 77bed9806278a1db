/- Texts of one proof, one behind the other: MD5, Open7. -/
import Derived.Test.YtealalhgkdlmkaiB06
import Derived.Deep.AppendLies
import Derived.OpenShut
/- Lists copied: an append behind nothing, whatever the elements; pairs and lists of texts of one's own. -/
namespace Go.Proofs.Ytealalhgkdlmkai
open Go.RowKit Go.Sort

theorem infoPr : ∃ i, Try.prog.info? 57 = some i ∧ i.zero = some (.agg #[.int .i64 0, .int .i64 0]) ∧ i.size = 2 ∧ i.bytes = 16 := by
  (obtain ⟨i, hi, h⟩ := Option.map_eq_some_iff.1 (show (Try.prog.info? 57).map (fun i => (i.zero, i.size, i.bytes)) = some (some (.agg #[.int .i64 0, .int .i64 0]), 2, 16) by kernel_rfl)); simp only [Prod.mk.injEq] at h; exact ⟨i, hi, h.1, h.2.1, h.2.2⟩
/-- An append behind nothing. -/
theorem step_app0 {ops : Array Oper} {o : Oper} {a : Act} {w : World} {K : Act → World → Prop} {Q : Exit → Act → World → Prop} {E : Prop} (hgd : o.guard = none) (s x : Operand) (t : TypeId) (hop : o.op = Op.call { callee := Callee.builtin Builtin.append, args := #[s, x], argTypes := #[t, t] })
    (e : TypeId) (i0 : TypeInfo) (z : Value) (size bytes : Nat) (ht : Try.prog.underlying t = some (.slice e)) (hi : Try.prog.info? e = some i0) (hz : i0.zero = some z) (hsize : i0.size = size) (hby : i0.bytes = bytes) (hzs : z.cells.size = size) (hsz : 0 < size)
    (x0 : Option Addr) (m c : Nat) (news : List Value) (hs : a.eval s = .slice none 0 0) (hx : a.eval x = .slice x0 m c) (hl : news.length = m * size) (hn : 0 < m → ∃ b off, x0 = some ⟨b, off, none⟩ ∧ ∀ j u, news[j]? = some u → w.cell? ⟨b, off + j, none⟩ = some u) (h1 : ∀ u ∈ news, u.oneCell' = true) (hmx : m ≤ maxLen) (hmb : m * bytes ≤ 140737488355328)
    (h : ∀ ad3 cp3 w3, w3.ownsRow w.heap.size e size (.slice ad3 m cp3) m news → Below w.heap.size w w3 → K (a.put o.dst (.slice ad3 m cp3)) w3) : if Region.wanted o (yielded ops a.tmps) = true then Oper.wp Try.prog o a w K Q else E := by
  (have hw : Region.wanted o (yielded ops a.tmps) = true := by simp [Region.wanted, hgd]); rw [if_pos hw]; (have hown : w.ownsRow w.heap.size e size (.slice none 0 0) 0 [] := ⟨by simp, Or.inl ⟨rfl, rfl⟩⟩)
  rcases Nat.eq_zero_or_pos m with hm | hm
  · subst hm
    (have hnil : news = [] := List.length_eq_zero_iff.1 (by rw [hl]; omega)); subst hnil
    have hsrc : Src Try.prog i0.size t (.slice x0 0 c) 0 [] w := by
      cases x0 with
      | none => exact Src.ofNil w ht c
      | some ad => exact Src.ofSlice w ht ad 0 c [] (by simp) (fun j u h => by simp at h) (fun u h => by cases h)
    have hrun := run_append_nothing (P := Try.prog) w t t o.type e i0 ht hi none 0 0 (Nat.le_refl _) (.slice x0 0 c) hsrc; have h9 := h none 0 w hown (Below.refl _ _); unfold Oper.wp; simp [execOp, hop, resolve, invoke, builtin, hs, hx, hrun, Result.andThen]; exact h9
  · obtain ⟨b, off, rfl, hc⟩ := hn hm
    (refine wp_append_lies w s x t hop w.heap.size e i0 z size bytes ht hi hz hsize hby hzs hsz _ _ _ hs hown ⟨b, off, none⟩ m c news hx hl (fun j u hu => by rw [add_none]; exact hc j u hu) h1 hm (by omega) (by rw [Nat.zero_add]; exact hmb) (Nat.le_refl _) _ rfl ?_); intro g3 cp3 w3 hown3 hgrow hat hlt3; rw [Nat.zero_add, List.nil_append] at hown3; rw [Nat.zero_add]; (exact h _ _ w3 hown3 ⟨hgrow.os, hgrow.tape, hgrow.output, hgrow.size, fun b hb => hgrow.block b hb fun e => by cases e⟩)
/-- The cells of pairs. -/
def encP : List (Int × Int) → List Value
  | [] => []
  | p :: rs => .int .i64 p.1 :: .int .i64 p.2 :: encP rs
theorem encP_at : ∀ (rs : List (Int × Int)) (j : Nat) (x y : Int), rs[j]? = some (x, y) → (encP rs)[j * 2]? = some (.int .i64 x) ∧ (encP rs)[j * 2 + 1]? = some (.int .i64 y)
  | [], j, x, y, h => by simp at h
  | p :: rs, 0, x, y, h => by
    simp at h; subst h
    exact ⟨rfl, rfl⟩
  | p :: rs, j + 1, x, y, h => by
    (have h9 := encP_at rs j x y (by simpa using h)); (rw [encP, show (j + 1) * 2 = j * 2 + 1 + 1 by omega]); exact h9
theorem rowM_caps {B : Nat} {w : World} {T : TypeId} {sz n cap : Nat} {ad : Option Addr} {cs : List Value} (h : w.ownsRow B T sz (.slice ad n cap) n cs) : n ≤ cap ∧ cap ≤ maxLen := by
  rcases h.2 with ⟨hv, h0⟩ | ⟨g, cap', cur, hv, -, -, h1, h2, -⟩
  · simp only [Value.slice.injEq] at hv
    (exact ⟨by omega, by rw [hv.2.2]; simp⟩)
  · simp only [Value.slice.injEq, true_and] at hv
    rw [hv.2]; exact ⟨h1, h2⟩
theorem rowM_cells {B : Nat} {w : World} {T : TypeId} {sz n cap : Nat} {ad : Option Addr} {cs : List Value} (h : w.ownsRow B T sz (.slice ad n cap) n cs) (hn : 0 < n) : ∃ g, ad = some ⟨g, 0, none⟩ ∧ ∀ j u, cs[j]? = some u → w.cell? ⟨g, 0 + j, none⟩ = some u := by
  rcases h.2 with ⟨hv, h0⟩ | ⟨g, cap', cur, hv, -, hh, h1, h2, h3, h4⟩
  · omega
  · simp only [Value.slice.injEq, true_and] at hv
    (refine ⟨g, hv.1, fun j u hj => ?_⟩); rw [Nat.zero_add, blk_cell hh]; rw [← h4, List.getElem?_take] at hj
    split at hj
    · simpa using hj
    · cases hj
/-- A row of one's own over a world that keeps its block. -/
theorem rowM_move {B : Nat} {w w' : World} {T : TypeId} {sz n : Nat} {v : Value} {cs : List Value} (h : w.ownsRow B T sz v n cs) (hk : ∀ g cur, v.ownBlock = some g → w.heap[g]? = some (.cells cur T (0, 0)) → w'.heap[g]? = w.heap[g]?) : w'.ownsRow B T sz v n cs := by
  refine ⟨h.1, ?_⟩
  rcases h.2 with h2 | ⟨g, cap, cur, hv, hg, hh, r⟩
  · exact Or.inl h2
  · exact Or.inr ⟨g, cap, cur, hv, hg, (hk g cur (by rw [hv]; rfl) hh).trans hh, r⟩
theorem rowM_up {B : Nat} {w w' : World} {T : TypeId} {sz n : Nat} {v : Value} {cs : List Value} (h : w.ownsRow B T sz v n cs) (hb : Below w.heap.size w w') : w'.ownsRow B T sz v n cs :=
  rowM_move h fun g _ _ hh => hb.block g (lt_of_block hh)
theorem rowM_low {B B' : Nat} {w : World} {T : TypeId} {sz n : Nat} {v : Value} {cs : List Value} (h : w.ownsRow B T sz v n cs) (hB : B' ≤ B) : w.ownsRow B' T sz v n cs := by
  refine ⟨h.1, ?_⟩
  rcases h.2 with h2 | ⟨g, cap, cur, hv, hg, r⟩
  · exact Or.inl h2
  · exact Or.inr ⟨g, cap, cur, hv, Nat.le_trans hB hg, r⟩
/-- Pairs of one's own. -/
theorem PL.own {B : Nat} {w : World} {ad : Option Addr} {cp : Nat} {rs : List (Int × Int)} (h : w.ownsRow B 57 2 (.slice ad rs.length cp) rs.length (encP rs)) : PL w (.slice ad rs.length cp) rs := by
  obtain ⟨h1, h2⟩ := rowM_caps h; (refine ⟨ad, cp, rfl, h1, h2, fun hne => ?_⟩); obtain ⟨g, rfl, hc⟩ := rowM_cells h (List.length_pos_iff.2 hne); (refine ⟨g, 0, rfl, fun j x y hj => ?_⟩); obtain ⟨e1, e2⟩ := encP_at rs j x y hj; (exact ⟨hc _ _ e1, by have := hc _ _ e2; rwa [show 0 + (j * 2 + 1) = 0 + j * 2 + 1 by omega] at this⟩)
end Go.Proofs.Ytealalhgkdlmkai
/- An argument of type Model. -/
namespace Go.Proofs.Ytealalhgkdlmkai
open Go.RowKit

theorem cellsPr : Try.prog.cellsOf 57 = 2 := by kernel_rfl
theorem cellsN : Try.prog.cellsOf 3 = 1 := by kernel_rfl
theorem list_ofM {α : Type} {P : Nat → α → Prop} : ∀ (len : Nat), (∀ i, i < len → ∃ x, P i x) → ∃ l : List α, l.length = len ∧ ∀ (j : Nat) (x : α), l[j]? = some x → P j x
  | 0, _ => ⟨[], rfl, fun j x h => by simp at h⟩
  | len + 1, h => by
    (obtain ⟨l, hl, hp⟩ := list_ofM len fun i hi => h i (by omega)); (obtain ⟨x, hx⟩ := h len (by omega)); (refine ⟨l ++ [x], by simp [hl], fun j y hj => ?_⟩); by_cases e : j < len
    · rw [List.getElem?_append_left (by omega)] at hj
      exact hp j y hj
    · rw [List.getElem?_append_right (by omega)] at hj
      by_cases e2 : j = len
      · subst e2
        rw [hl, Nat.sub_self] at hj; simp at hj; rw [← hj]; exact hx
      · rw [List.getElem?_eq_none (by simp; omega)] at hj
        cases hj
section
variable {H : Type} {enc : TypeId × Value → H} {W : World} {spare : Nat → Bool} {held : Bool}

set_option maxRecDepth 100000 in
theorem pr_of_trod (fuel : Nat) (cs : List Value) (x : DataW H × List MemPlace) (h : DataW.trod enc Try.prog W 0 spare held fuel 57 cs = some x) : ∃ a b : Int, cs = [.int .i64 a, .int .i64 b] := by
  obtain ⟨xs, m, -, -, hl, hlen, hall⟩ := DataW.trod_array Try.underlying57 h; rw [cellsPr] at hl
  match cs, hl with
  | [c0, c1], _ =>
    match xs, hlen with
    | [y0, y1], _ =>
      (have h0 := hall 0 (by omega)); (have h1 := hall 1 (by omega)); simp [cellsN] at h0 h1; obtain ⟨k, e0, -, -⟩ := DataW.trod_int Try.underlying3 h0; obtain ⟨j, e1, -, -⟩ := DataW.trod_int Try.underlying3 h1; simp at e0 e1; subst e0 e1; exact ⟨k, j, rfl⟩
theorem pl_of_trod (fuel : Nat) (cs : List Value) (x : DataW H × List MemPlace) (h : DataW.trod enc Try.prog W 0 spare held fuel 23 cs = some x) :
    ∃ v rs, cs = [v] ∧ PL W v rs := by
  rcases DataW.trod_slice Try.underlying23 h with ⟨rfl, -⟩ | ⟨a, len, cap, elems, rest, m, hm, rfl, -, -, hlc, hcm, hel, hall, -⟩
  · exact ⟨_, [], rfl, none, 0, rfl, by simp, by simp, fun h => absurd rfl h⟩
  · obtain ⟨b, off, spot⟩ := a
    have rd : ∀ i, i < len → ∃ t : Int × Int, W.cell? ((⟨b, off, spot⟩ : Addr).add (i * 2)) = some (.int .i64 t.1) ∧ W.cell? (((⟨b, off, spot⟩ : Addr).add (i * 2)).add 1) = some (.int .i64 t.2) := fun i hi => by
      have hh := hall i hi; (rw [cellsPr, List.getElem?_eq_getElem (by omega)] at hh); obtain ⟨cs', hcs, htr⟩ := Option.bind_eq_some_iff.1 hh; obtain ⟨-, hl3, hcell⟩ := World.cells?_some hcs; obtain ⟨x, y, rfl⟩ := pr_of_trod _ _ _ htr; (have g0 := hcell 0 (by omega)); (have g1 := hcell 1 (by omega)); (exact ⟨(x, y), by simpa [Addr.add] using g0, by simpa [Addr.add] using g1⟩)
    by_cases hz : len = 0
    · subst hz
      (exact ⟨_, [], rfl, _, cap, rfl, by simp, hcm, fun h => absurd rfl h⟩)
    · have hsp : spot = none := by
        (obtain ⟨y, hy, -⟩ := rd 0 (by omega)); simp [Addr.add] at hy; simpa using World.cell?_spot hy
      subst hsp; obtain ⟨l, hl, hp⟩ := list_ofM len rd; subst hl; (refine ⟨_, l, rfl, _, cap, rfl, hlc, hcm, fun _ => ⟨b, off, rfl, fun j x y hj => ?_⟩⟩); have := hp j (x, y) hj; simp only [add_none] at this; exact this
end
end Go.Proofs.Ytealalhgkdlmkai
