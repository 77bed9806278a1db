/- Texts of one proof, one behind the other: NTN. -/
import Derived.Test.YtblodnpfckflaakB16
import Derived.Test.YtblodnpfckflaakB01
import Derived.Test.YtblodnpfckflaakB09
import Derived.Test.YtblodnpfckflaakB04
import Derived.Lib.Builder
import Derived.Lib.AppendStr
import Derived.Lib.UnsafeStr
import Derived.Laws.Externs
import Derived.Deep.Upon
/- Walks: the nodes of linear formulas, walked: Linears, Leaves. -/
namespace Go.Proofs.Ytblodnpfckflaak
open Go.RowKit

/-- An append of any list, an empty one too, onto a row of one's own. -/
theorem wp_appG {o : Oper} {a : Act} {w : World} {K : Act → World → Prop} {Q : Exit → Act → World → Prop} (s x : Operand) (t : TypeId) (hop : o.op = Op.call { callee := Callee.builtin Builtin.append, args := #[s, x], argTypes := #[t, t] })
    (B : Nat) (e : TypeId) (i0 : TypeInfo) (z : Value) (size bytes : Nat) (ht : Try.prog.underlying t = some (.slice e)) (hi : Try.prog.info? e = some i0) (hz : i0.zero = some z) (hsize : i0.size = size) (hby : i0.bytes = bytes) (hzs : z.cells.size = size) (hsz : 0 < size)
    (ad : Option Addr) (n cp : Nat) (xs : List Value) (hs : a.eval s = .slice ad n cp) (hown : w.ownsRow B e size (.slice ad n cp) n xs)
    (x0 : Option Addr) (m c : Nat) (news : List Value) (hx : a.eval x = .slice x0 m c) (hl : news.length = m * size) (hn : 0 < m → ∃ b off, x0 = some ⟨b, off, none⟩ ∧ ∀ (j : Nat) (u : Value), news[j]? = some u → w.cell? ⟨b, off + j, none⟩ = some u) (h1 : ∀ u ∈ news, u.oneCell' = true) (hmx : n + m ≤ maxLen) (hmb : (n + m) * bytes ≤ 140737488355328) (hB : B ≤ w.heap.size)
    (h : ∀ ad3 cp3 w3, w3.ownsRow B e size (.slice ad3 (n + m) cp3) (n + m) (xs ++ news) → Kept (fun b => (Value.slice ad n cp).ownBlock ≠ some b) w w3 → K (a.put o.dst (.slice ad3 (n + m) cp3)) w3) : Oper.wp Try.prog o a w K Q := by
  rcases Nat.eq_zero_or_pos m with hm | hm
  · subst hm
    (have hnil : news = [] := List.length_eq_zero_iff.1 (by rw [hl]; omega)); subst hnil
    have hsrc : Src Try.prog i0.size t (.slice x0 0 c) 0 [] w := by
      cases x0 with
      | none => exact Src.ofNil w ht c
      | some ad => exact Src.ofSlice w ht ad 0 c [] (by simp) (fun j u h => by simp at h) (fun u h => by cases h)
    have hrun := run_append_nothing (P := Try.prog) w t t o.type e i0 ht hi ad n cp (rowM_caps hown).1 (.slice x0 0 c) hsrc; (have h9 := h ad cp w (by rw [List.append_nil]; exact hown) (Kept.refl _ _)); unfold Oper.wp; simp [execOp, hop, resolve, invoke, builtin, hs, hx, hrun, Result.andThen]; exact h9
  · obtain ⟨b, off, rfl, hc⟩ := hn hm
    (refine wp_append_lies w s x t hop B e i0 z size bytes ht hi hz hsize hby hzs hsz _ _ _ hs hown ⟨b, off, none⟩ m c news hx hl (fun j u hu => by rw [add_none]; exact hc j u hu) h1 hm hmx hmb hB _ rfl ?_); intro g3 cp3 w3 hown3 hgrow hat hlt3; (exact h _ _ w3 hown3 ⟨hgrow.os, hgrow.tape, hgrow.output, hgrow.size, fun b hb hn => hgrow.block b hb fun e => hn e.symm⟩)
theorem wpList_appG {ops : Array Oper} {rest : List Oper} {o : Oper} {a : Act} {w : World} {Q : Exit → Act → World → Prop} (hgd : o.guard = none) (s x : Operand) (t : TypeId) (hop : o.op = Op.call { callee := Callee.builtin Builtin.append, args := #[s, x], argTypes := #[t, t] })
    (B : Nat) (e : TypeId) (i0 : TypeInfo) (z : Value) (size bytes : Nat) (ht : Try.prog.underlying t = some (.slice e)) (hi : Try.prog.info? e = some i0) (hz : i0.zero = some z) (hsize : i0.size = size) (hby : i0.bytes = bytes) (hzs : z.cells.size = size) (hsz : 0 < size)
    (ad : Option Addr) (n cp : Nat) (xs : List Value) (hs : a.eval s = .slice ad n cp) (hown : w.ownsRow B e size (.slice ad n cp) n xs)
    (x0 : Option Addr) (m c : Nat) (news : List Value) (hx : a.eval x = .slice x0 m c) (hl : news.length = m * size) (hn : 0 < m → ∃ b off, x0 = some ⟨b, off, none⟩ ∧ ∀ (j : Nat) (u : Value), news[j]? = some u → w.cell? ⟨b, off + j, none⟩ = some u) (h1 : ∀ u ∈ news, u.oneCell' = true) (hmx : n + m ≤ maxLen) (hmb : (n + m) * bytes ≤ 140737488355328) (hB : B ≤ w.heap.size)
    (h : ∀ ad3 cp3 w3, w3.ownsRow B e size (.slice ad3 (n + m) cp3) (n + m) (xs ++ news) → Kept (fun b => (Value.slice ad n cp).ownBlock ≠ some b) w w3 → wpList Try.prog ops Q rest (a.put o.dst (.slice ad3 (n + m) cp3)) w3) : wpList Try.prog ops Q (o :: rest) a w :=
  wpList_plain hgd fun _ hK => wp_appG s x t hop B e i0 z size bytes ht hi hz hsize hby hzs hsz ad n cp xs hs hown x0 m c news hx hl hn h1 hmx hmb hB fun ad3 cp3 w3 h2 h3 => hK _ _ (h ad3 cp3 w3 h2 h3)
theorem kept_row {B : Nat} {w W V : World} {e : TypeId} {size n cp : Nat} {ad : Option Addr} {xs : List Value} (hb : Below B w W) (hB : B ≤ W.heap.size) (hown : W.ownsRow B e size (.slice ad n cp) n xs) (hk : Kept (fun b => (Value.slice ad n cp).ownBlock ≠ some b) W V) : Below B w V :=
  hb.trans (hk.below hB fun b hb2 e2 => by have := (hown.lt b e2).1; omega)
end Go.Proofs.Ytblodnpfckflaak
