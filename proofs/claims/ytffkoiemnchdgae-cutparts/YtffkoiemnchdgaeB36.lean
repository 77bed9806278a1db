/- Texts of one proof, one behind the other: CW1, CW6, YM1. -/
import Derived.Test.YtffkoiemnchdgaeB34
import Derived.Test.YtffkoiemnchdgaeB33
import Derived.Test.YtffkoiemnchdgaeB16
/- A proof with a formula more at the left of each step: plain. -/
namespace Go.Proofs.Ytffkoiemnchdgae
open Go.RowKit

theorem firstBad_all : ∀ (l : List Fm) (i : Nat), (firstBad l i).1 = 0 → ∀ f ∈ l, f.pcode.1 = 0
  | [], _, _, f, hf => by cases hf
  | g :: l, i, h, f, hf => by
    rw [firstBad] at h
    split at h
    · rename_i hg
      rcases List.mem_cons.1 hf with rfl | hf
      · exact hg
      · exact firstBad_all l (i + 1) h f hf
    · rename_i hg
      exact absurd h hg
theorem seqCode_zero {l r : List Fm} (h : (seqCode l r).1 = 0) : l.length + r.length ≤ 60 ∧ ∀ f ∈ l ++ r, f.pcode.1 = 0 := by
  unfold seqCode at h
  split at h
  · cases h
  · exact ⟨by omega, firstBad_all _ _ h⟩
end Go.Proofs.Ytffkoiemnchdgae
/- Walks: Steps. -/
namespace Go.Proofs.Ytffkoiemnchdgae
open Go.RowKit

theorem infoInt : ∃ i, Try.prog.info? 3 = some i ∧ i.zero = some (.int .i64 0) ∧ i.size = 1 ∧ i.bytes = 8 := by
  (obtain ⟨i, hi, h⟩ := Option.map_eq_some_iff.1 (show (Try.prog.info? 3).map (fun i => (i.zero, i.size, i.bytes)) = some (some (.int .i64 0), 1, 8) by kernel_rfl)); simp only [Prod.mk.injEq] at h; exact ⟨i, hi, h.1, h.2.1, h.2.2⟩
theorem owns_keep {B : Nat} {w w' : World} {T : TypeId} {sz n : Nat} {v : Value} {cs : List Value} (h : w.ownsRow B T sz v n cs) (hb : ∀ b, v.ownBlock = some b → w'.heap[b]? = w.heap[b]?) : w'.ownsRow B T sz v n cs := by
  obtain ⟨h1, h2⟩ := h; refine ⟨h1, ?_⟩
  rcases h2 with h2 | ⟨g, cap, cur, hv, hg, hh, r⟩
  · exact Or.inl h2
  · exact Or.inr ⟨g, cap, cur, hv, hg, (hb g (by rw [hv]; rfl)).trans hh, r⟩
theorem owns_low {B B' : Nat} {w : World} {T : TypeId} {sz n : Nat} {v : Value} {cs : List Value} (h : w.ownsRow B' T sz v n cs) (hB : B ≤ B') : w.ownsRow B T sz v n cs := by
  obtain ⟨h1, h2⟩ := h; refine ⟨h1, ?_⟩
  rcases h2 with h2 | ⟨g, cap, cur, hv, hg, hh, r⟩
  · exact Or.inl h2
  · exact Or.inr ⟨g, cap, cur, hv, Nat.le_trans hB hg, hh, r⟩
theorem KF.low {P : Nat → Prop} {B B' : Nat} {w : World} {ad : Option Addr} {cap : Nat} {ps : List Pf} (h : KF P B' w ad cap ps) (hB : B ≤ B') : KF P B w ad cap ps := by
  obtain ⟨cs, ho, h1⟩ := h; exact ⟨cs, owns_low ho hB, h1⟩
/-- Where the cells of a row lie. -/
theorem row_cells {B : Nat} {w : World} {T : TypeId} {sz n cap : Nat} {ad : Option Addr} {cs : List Value} (h : w.ownsRow B T sz (.slice ad n cap) n cs) (hn : 0 < n) : ∃ g, ad = some ⟨g, 0, none⟩ ∧ ∀ j u, cs[j]? = some u → w.cell? ((⟨g, 0, none⟩ : Addr).add j) = some u := by
  obtain ⟨g, cap', hv, -⟩ := h.form hn; simp only [Value.slice.injEq, true_and] at hv; obtain ⟨rfl, -⟩ := hv; (exact ⟨g, rfl, fun j u hu => h.cells rfl j u hu⟩)
theorem KF.keep {P : Nat → Prop} {B : Nat} {w w' : World} {ad : Option Addr} {cap : Nat} {ps : List Pf} (h : KF P B w ad cap ps) (hb : ∀ b, P b → b < w.heap.size → w'.heap[b]? = w.heap[b]?) (hg : ∀ b, (Value.slice ad ps.length cap).ownBlock = some b → w'.heap[b]? = w.heap[b]?) : KF P B w' ad cap ps := by
  obtain ⟨cs, ho, h3⟩ := h; (exact ⟨cs, owns_keep ho hg, PQ.move (fun b hb1 hb2 => ⟨hb b hb2.1 hb1, hb2⟩) h3⟩)
end Go.Proofs.Ytffkoiemnchdgae
/- The yardstick's premises, against the rules: plain. -/
namespace Go.Proofs.Ytffkoiemnchdgae

/-! Steps, as the yardstick lists them. -/
mutual
/-- All steps with how deep they are. -/
def Pf.nodesD : Pf → Nat → List (Pf × Nat)
  | .mk a f l r ks, d => (.mk a f l r ks, d) :: Pf.nodesDL ks (d + 1)
def Pf.nodesDL : List Pf → Nat → List (Pf × Nat)
  | [], _ => []
  | k :: ks, d => k.nodesD d ++ Pf.nodesDL ks d
end
mutual
/-- At most so many, none deeper than 402. -/
def Pf.stepsL : Pf → Nat → Nat → List (Pf × Nat)
  | .mk a f l r ks, d, m => (.mk a f l r ks, d) :: Pf.stepsLs ks d m 1
/-- The rest of the loop: so many are there. -/
def Pf.stepsLs : List Pf → Nat → Nat → Nat → List (Pf × Nat)
  | [], _, _, _ => []
  | k :: ks, d, m, n => if n ≤ m ∧ d < 402 then k.stepsL (d + 1) (m - n) ++ Pf.stepsLs ks d m (n + (k.stepsL (d + 1) (m - n)).length) else []
end
def scan (i : Bool) : List (Pf × Nat) → Nat → Int × Int
  | [], _ => (0, 0)
  | x :: xs, s => if s = 20000 ∨ 400 < x.2 then (2, 0) else if stepC i x.1 ≠ 0 then (stepC i x.1, (s : Nat)) else scan i xs (s + 1)
/-- Both go the same way as far as it matters: n steps, or one that is too deep. -/
def Agree (n : Nat) (L M : List (Pf × Nat)) : Prop := L = M ∨ ∃ P X Y, L = P ++ X ∧ M = P ++ Y ∧ (n ≤ P.length ∨ ∃ e ∈ P, 400 < e.2)
theorem Agree.cons {n : Nat} {L M : List (Pf × Nat)} (x : Pf × Nat) (h : Agree n L M) : Agree (n + 1) (x :: L) (x :: M) := by
  rcases h with rfl | ⟨P, X, Y, rfl, rfl, h⟩
  · exact Or.inl rfl
  · refine Or.inr ⟨x :: P, X, Y, rfl, rfl, h.imp (fun h => by simp; omega) fun ⟨e, he, hd⟩ => ⟨e, List.mem_cons_of_mem _ he, hd⟩⟩
theorem Agree.low {n n' : Nat} {L M : List (Pf × Nat)} (h : Agree n L M) (hn : n' ≤ n) : Agree n' L M := by
  rcases h with rfl | ⟨P, X, Y, rfl, rfl, h⟩
  · exact Or.inl rfl
  · exact Or.inr ⟨P, X, Y, rfl, rfl, h.imp (fun h => by omega) id⟩
theorem Agree.append {n : Nat} {L M L' M' : List (Pf × Nat)} (h : Agree n L M) (h' : L = M → Agree (n - L.length) L' M') : Agree n (L ++ L') (M ++ M') := by
  rcases h with rfl | ⟨P, X, Y, rfl, rfl, h⟩
  · rcases h' rfl with rfl | ⟨P, X, Y, rfl, rfl, h⟩
    · exact Or.inl rfl
    · exact Or.inr ⟨L ++ P, X, Y, by simp, by simp, h.imp (fun h => by simp; omega) fun ⟨e, he, hd⟩ => ⟨e, List.mem_append_right _ he, hd⟩⟩
  · exact Or.inr ⟨P, X ++ L', Y ++ M', by simp, by simp, h⟩
mutual
theorem steps_agree : ∀ (p : Pf) (d m : Nat), Agree (m + 1) (p.stepsL d m) (p.nodesD d)
  | .mk a f l r ks, d, m => by
    rw [Pf.stepsL, Pf.nodesD]; by_cases hd : d < 402
    · by_cases hm : 1 ≤ m
      · exact ((stepss_agree ks d m 1 hd).cons _).low (by omega)
      · refine Or.inr ⟨[(.mk a f l r ks, d)], _, _, rfl, rfl, Or.inl (by simp; omega)⟩
    · exact Or.inr ⟨[(.mk a f l r ks, d)], _, _, rfl, rfl, Or.inr ⟨_, List.mem_cons_self, by show 400 < d; omega⟩⟩
theorem stepss_agree : ∀ (ks : List Pf) (d m n : Nat), d < 402 → Agree (m + 1 - n) (Pf.stepsLs ks d m n) (Pf.nodesDL ks (d + 1))
  | [], d, m, n, _ => by rw [Pf.stepsLs, Pf.nodesDL]; exact Or.inl rfl
  | k :: ks, d, m, n, hd => by
    rw [Pf.stepsLs, Pf.nodesDL]; by_cases h : n ≤ m ∧ d < 402
    · rw [if_pos h]
      have h1 := steps_agree k (d + 1) (m - n); (refine (h1.low (by omega)).append fun _ => ?_); have h2 := stepss_agree ks d m (n + (k.stepsL (d + 1) (m - n)).length) hd; (exact h2.low (by omega))
    · rw [if_neg h]
      (exact Or.inr ⟨[], _, _, rfl, rfl, Or.inl (by simp; omega)⟩)
end
end Go.Proofs.Ytffkoiemnchdgae
