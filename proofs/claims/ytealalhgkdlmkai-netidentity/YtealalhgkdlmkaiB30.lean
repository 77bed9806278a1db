/- Texts of one proof, one behind the other: NTUA, NTUB. -/
import Derived.Test.YtealalhgkdlmkaiB27
import Derived.Test.YtealalhgkdlmkaiB28
import Derived.Test.YtealalhgkdlmkaiB18
import Derived.Test.YtealalhgkdlmkaiB13
/- Plain things for the law NetTensors: links that are in range, cells of an argument, the last and the first of a list in cells. -/
namespace Go.Proofs.Ytealalhgkdlmkai
open Go.RowKit Go.Sort

theorem LL.cells0 {w : World} {sl : Option Addr} {n cap : Nat} {l : List Lm} (h : LL w (.slice sl n cap) l) : ∃ cs, LQ4 w cs l ∧ (0 < l.length → ∃ b off, sl = some ⟨b, off, none⟩ ∧ ∀ (j : Nat) (u : Value), cs[j]? = some u → w.cell? ⟨b, off + j, none⟩ = some u) := by
  obtain ⟨sl', cap', e, -, -, h⟩ := h; simp only [Value.slice.injEq] at e; obtain ⟨rfl, rfl, rfl⟩ := e; by_cases hl : l = []
  · subst hl
    (exact ⟨[], trivial, fun h => absurd h (by simp)⟩)
  · obtain ⟨b, off, rfl, hr⟩ := h hl
    obtain ⟨cs, hq, hc⟩ := hr.cells; (exact ⟨cs, hq, fun _ => ⟨b, off, rfl, hc⟩⟩)
theorem encP_cat : ∀ a b, encP (a ++ b) = encP a ++ encP b
  | [], b => rfl
  | p :: a, b => by rw [List.cons_append, encP, encP_cat a b, encP]; rfl
/-- The last of a list in cells. -/
theorem LQ4.last {w : World} : ∀ {cs : List Value} {l : List Lm} (k : Nat), LQ4 w cs l → l.length = k + 1 → ∃ l' f0 c1 u0 u1 u2 u3, l = l' ++ [f0] ∧ l'.length = k ∧ cs = c1 ++ [u0, u1, u2, u3] ∧ LQ4 w c1 l' ∧ LRep w f0 (.agg #[u0, u1, u2, u3]) ∧ ∀ u ∈ [u0, u1, u2, u3], u.oneCell' = true
  | [], [], _, _, e => by simp at e
  | c0 :: c1 :: c2 :: c3 :: cs, [f], k, h, e => by
    (have hc : cs = [] := by have := h.2.2.len; simpa using this); subst hc
    exact ⟨[], f, [], c0, c1, c2, c3, rfl, by simp at e ⊢; omega, rfl, trivial, h.1, h.2.1⟩
  | c0 :: c1 :: c2 :: c3 :: cs, f :: g :: fs, k, h, e => by
    (obtain ⟨l', f0, d, u0, u1, u2, u3, e1, e2, e3, e4, e5, e6⟩ := LQ4.last (k - 1) h.2.2 (by simp at e ⊢; omega)); (exact ⟨f :: l', f0, c0 :: c1 :: c2 :: c3 :: d, u0, u1, u2, u3, by rw [e1]; rfl, by simp at e ⊢; omega, by rw [e3]; rfl, ⟨h.1, h.2.1, e4⟩, e5, e6⟩)
end Go.Proofs.Ytealalhgkdlmkai
/- Plain things for the law NetTensors: the tensor's own node in memory. -/
namespace Go.Proofs.Ytealalhgkdlmkai
open Go.RowKit Go.Sort

theorem last_cells {w : World} {b off n : Nat} {cs dl : List Value} {u0 u1 u2 u3 : Value} (e : cs = dl ++ [u0, u1, u2, u3]) (hd : dl.length = n) (hc : ∀ (j : Nat) (u : Value), cs[j]? = some u → w.cell? ⟨b, off + j, none⟩ = some u) : w.cell? ⟨b, off + n, none⟩ = some u0 ∧ w.cell? ⟨b, off + n + 1, none⟩ = some u1 ∧ w.cell? ⟨b, off + n + 2, none⟩ = some u2 ∧ w.cell? ⟨b, off + n + 3, none⟩ = some u3 := by
  subst e; subst hd; (exact ⟨hc _ u0 (by simp), hc (dl.length + 1) u1 (by simp), hc (dl.length + 2) u2 (by simp), hc (dl.length + 3) u3 (by simp)⟩)
theorem links_pl {W : World} {B n cp : Nat} {ad : Option Addr} {rs : List (Int × Int)} (hn : n = rs.length) (ho : W.ownsRow B 57 2 (.slice ad n cp) n (encP rs)) : PL W (.slice ad n cp) rs := by
  subst hn; exact PL.own ho
end Go.Proofs.Ytealalhgkdlmkai
