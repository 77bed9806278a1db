/- Texts of one proof, one behind the other: MD6, MD7, SB8, NT5. -/
import Derived.Test.YtealalhgkdlmkaiB11
import Derived.Test.YtealalhgkdlmkaiB02
import Derived.Test.YtealalhgkdlmkaiB07
import Derived.Test.YtealalhgkdlmkaiB10
import Derived.Deep.OwnRows
import Derived.Test.YtealalhgkdlmkaiB13
import Derived.Test.YtealalhgkdlmkaiB06
import Derived.Maps.OwnSet
import Derived.Maps.OwnOps
import Derived.DeepKeys4
import Derived.RangeFuncBox
import Derived.RangeFuncLeaves
import Derived.Shelf.Abstract
import Derived.WalkKit
import Derived.OwnWalkIn
import Derived.TacticsInMore
import Derived.LoopNIn
import Derived.LoopIn
import Derived.Test.YtealalhgkdlmkaiB04
import Derived.Deep.DeepCutAuto
import Derived.Deep.CutBlock
import Derived.Deep.AppendLies
import Derived.Deep.RegionLaw
import Derived.Shelf.Sort.Plain
import Derived.Shelf.Slices.CompactS
import Derived.Shelf.Slices.In.SortNone
import Derived.Test.YtealalhgkdlmkaiProg
import Derived.Sort.OwnSorted
import Derived.Sort.Walk0
import Derived.Deep.AppendSrc
import Derived.Laws.BitsLemmas
import Derived.Deep.RegionHeld3
import Derived.Laws.EntriesVeiled
import Derived.Deep.Upon
import Derived.Lib.AppendZerosOnto
import Derived.Shelf.Strings.OnBuilder
import Derived.Shelf.Slices.Equal
import Derived.Shelf.Slices.Empties2
import Derived.RegionTactic
import Derived.Test.YtealalhgkdlmkaiB12
import Derived.Test.YtealalhgkdlmkaiB08
/- Walks: a model of one's own. -/
namespace Go.Proofs.Ytealalhgkdlmkai
open Go.RowKit Go.Sort

theorem cons_lenM {n : Nat} {l : List Value} (h : l.length = n + 1) : ∃ v t, l = v :: t ∧ t.length = n := by
  cases l with
  | nil => cases h
  | cons v t => exact ⟨v, t, rfl, by simpa using h⟩
theorem someInjM {x y : Value} (h : some x = some y) : x = y := Option.some.inj h
theorem eval_tmpM {a : Act} {n : Nat} {v : Value} (h : a.tmps[n]? = some v) : a.eval (.tmp n) = v := by
  simp [Act.eval, h]
theorem farM {W : World} {b x i : Nat} (h : x ≠ b) (v : Value) : (W.setCell ⟨b, i, none⟩ v).heap[x]? = W.heap[x]? := Below.heap_setCell _ _ _ _ (by simpa using h)
theorem rowM_ne {B : Nat} {w : World} {T T' : TypeId} {sz n g : Nat} {v : Value} {cs : List Value} {cur : Array Value} (h : w.ownsRow B T sz v n cs) (hg : w.heap[g]? = some (.cells cur T' (0, 0))) (hT : T' ≠ T) : v.ownBlock ≠ some g := fun e => by
  rcases h.2 with ⟨rfl, -⟩ | ⟨g', cap, cur', rfl, -, hh, -⟩
  · cases e
  · have : g' = g := by simpa [Value.ownBlock] using e
    subst this; rw [hh] at hg; simp only [Option.some.injEq, Obj.cells.injEq] at hg; exact hT hg.2.1.symm
end Go.Proofs.Ytealalhgkdlmkai
/- Walks: which worlds each world sees. -/
namespace Go.Proofs.Ytealalhgkdlmkai
open Go.RowKit Go.Sort

theorem infoI9 : ∃ i, Try.prog.info? 3 = some i ∧ i.zero = some (.int .i64 0) ∧ i.size = 1 ∧ i.bytes = 8 := by
  (obtain ⟨i, hi, h⟩ := Option.map_eq_some_iff.1 (show (Try.prog.info? 3).map (fun i => (i.zero, i.size, i.bytes)) = some (some (.int .i64 0), 1, 8) by kernel_rfl)); simp only [Prod.mk.injEq] at h; exact ⟨i, hi, h.1, h.2.1, h.2.2⟩
def encI (k : Nat) : Value := .int .i64 (k : Nat)
end Go.Proofs.Ytealalhgkdlmkai
/- Walks: worlds parted by their names (byNames). -/
namespace Go.Proofs.Ytealalhgkdlmkai
open Go.RowKit Go.Maps Go.WideMaps

/-- Numbers in a row of one's own. -/
def OwnN (B : Nat) (w : World) (ad : Option Addr) (cp : Nat) (l : List Nat) : Prop := w.ownsRow B 3 1 (.slice ad l.length cp) l.length (l.map encI)
end Go.Proofs.Ytealalhgkdlmkai
/- Walks: the plan of linear formulas: plan.add. -/
namespace Go.Proofs.Ytealalhgkdlmkai
open Go.RowKit Go.Sort

/-- A node of a plan. -/
structure Nd where
  k : Int
  n : ByteArray
  g : Bool
  a : Nat
  b : Nat
def Nd.cells (x : Nd) : List Value := [.int .i64 x.k, .string x.n, .bool x.g, .int .i64 (x.a : Nat), .int .i64 (x.b : Nat)]
def encNd (l : List Nd) : List Value := l.flatMap Nd.cells
theorem encNd_len (l : List Nd) : (encNd l).length = l.length * 5 := by
  induction l with
  | nil => rfl
  | cons x l ih => rw [encNd, List.flatMap_cons, List.length_append, List.length_cons]; have : (List.flatMap Nd.cells l).length = l.length * 5 := ih; rw [this]; simp [Nd.cells]; omega
theorem encNd_app (l m : List Nd) : encNd (l ++ m) = encNd l ++ encNd m := by simp [encNd]
theorem encNd_get {l : List Nd} {i : Nat} {x : Nd} (h : l[i]? = some x) (j : Nat) (hj : j < 5) : (encNd l)[i * 5 + j]? = x.cells[j]? := by
  induction l generalizing i with
  | nil => simp at h
  | cons y l ih =>
    (have e : encNd (y :: l) = y.cells ++ encNd l := by simp [encNd]); have hl : y.cells.length = 5 := rfl; rw [e]
    cases i with
    | zero =>
      simp at h; subst h
      rw [Nat.zero_mul, Nat.zero_add, List.getElem?_append_left (by rw [hl]; exact hj)]
    | succ i =>
      (rw [List.getElem?_append_right (by rw [hl]; omega), hl, show (i + 1) * 5 + j - 5 = i * 5 + j by omega]); (exact ih (by simpa using h))
theorem encNd_set (l m : List Nd) (x y : Nd) (j : Nat) (hj : j < 5) (u : Value) (h : x.cells.set j u = y.cells) : (encNd (l ++ x :: m)).set (l.length * 5 + j) u = encNd (l ++ y :: m) := by
  (rw [encNd_app, encNd_app, List.set_append_right _ _ (by rw [encNd_len]; omega), encNd_len, show l.length * 5 + j - l.length * 5 = j by omega]); (have e : ∀ z, encNd (z :: m) = z.cells ++ encNd m := fun z => by simp [encNd]); (rw [e, e, List.set_append_left _ _ (by show j < 5; exact hj), h])
theorem cells_one (x : Nd) : ∀ u ∈ x.cells, u.oneCell' = true := by
  intro u hu; simp only [Nd.cells, List.mem_cons, List.not_mem_nil, or_false] at hu
  rcases hu with rfl | rfl | rfl | rfl | rfl <;> rfl
def kidA : List Lm → Nat → Nat
  | _ :: _, s => s
  | [], _ => 0
def kidB : List Lm → Nat → Nat
  | f :: _ :: _, s => s + f.size
  | _, _ => 0
mutual
def ndsF : Lm → Nat → List Nd
  | .mk k n g ks, s => ⟨k, n, g, kidA ks (s + 1), kidB ks (s + 1)⟩ :: ndsL ks (s + 1)
def ndsL : List Lm → Nat → List Nd
  | [], _ => []
  | f :: fs, s => ndsF f s ++ ndsL fs (s + f.size)
end
mutual
def lvsF : Lm → Nat → List Nat
  | .mk k _ _ ks, s => (if k = 1 then [s] else []) ++ lvsL ks (s + 1)
def lvsL : List Lm → Nat → List Nat
  | [], _ => []
  | f :: fs, s => lvsF f s ++ lvsL fs (s + f.size)
end
mutual
theorem ndsF_len : ∀ (f : Lm) (s : Nat), (ndsF f s).length = f.size
  | .mk k n g ks, s => by rw [ndsF, List.length_cons, ndsL_len ks, Lm.size]
theorem ndsL_len : ∀ (fs : List Lm) (s : Nat), (ndsL fs s).length = Lm.sizes fs
  | [], _ => by rw [ndsL, Lm.sizes]; rfl
  | f :: fs, s => by rw [ndsL, List.length_append, ndsF_len f, ndsL_len fs, Lm.sizes]
end
mutual
theorem lvsF_len : ∀ (f : Lm) (s : Nat), (lvsF f s).length ≤ f.size
  | .mk k n g ks, s => by
    rw [lvsF, List.length_append, Lm.size]; have := lvsL_len ks (s + 1)
    split <;> simp <;> omega
theorem lvsL_len : ∀ (fs : List Lm) (s : Nat), (lvsL fs s).length ≤ Lm.sizes fs
  | [], _ => by rw [lvsL, Lm.sizes]; exact Nat.le_refl _
  | f :: fs, s => by
    rw [lvsL, List.length_append, Lm.sizes]; have := lvsF_len f s; have := lvsL_len fs (s + f.size); omega
end
theorem infoNd : ∃ i, Try.prog.info? 119 = some i ∧ i.zero = some (.agg #[.int .i64 0, .string ⟨#[]⟩, .bool false, .int .i64 0, .int .i64 0]) ∧ i.size = 5 ∧ i.bytes = 48 := by
  (obtain ⟨i, hi, h⟩ := Option.map_eq_some_iff.1 (show (Try.prog.info? 119).map (fun i => (i.zero, i.size, i.bytes)) = some (some (.agg #[.int .i64 0, .string ⟨#[]⟩, .bool false, .int .i64 0, .int .i64 0]), 5, 48) by kernel_rfl)); simp only [Prod.mk.injEq] at h; exact ⟨i, hi, h.1, h.2.1, h.2.2⟩
/-- A row of one's own with a cell written. -/
theorem row_put {B : Nat} {w : World} {T : TypeId} {sz n : Nat} {g cp : Nat} {cs : List Value} (h : w.ownsRow B T sz (.slice (some ⟨g, 0, none⟩) n cp) n cs) (j : Nat) (u : Value) : (w.setCell ⟨g, j, none⟩ u).ownsRow B T sz (.slice (some ⟨g, 0, none⟩) n cp) n (cs.set j u) := by
  obtain ⟨h1, h2⟩ := h; (refine ⟨by rw [List.length_set]; exact h1, Or.inr ?_⟩)
  rcases h2 with ⟨h3, _⟩ | ⟨g', cap', cur, h3, h4, h5, h6, h7, h8, h9⟩
  · cases h3
  · cases h3
    (refine ⟨g, cp, cur.setIfInBounds j u, rfl, h4, ?_, h6, h7, by rw [Array.size_setIfInBounds]; exact h8, ?_⟩)
    · simp [World.setCell, Array.getElem?_modify, h5]
    · rw [Array.toList_setIfInBounds, List.take_set, h9]
theorem row_fz {B : Nat} {w : World} {T : TypeId} {sz n : Nat} {g cp : Nat} {cs : List Value} (h : w.ownsRow B T sz (.slice (some ⟨g, 0, none⟩) n cp) n cs) (j : Nat) : w.frozen? ⟨g, j, none⟩ = false := by
  obtain ⟨h1, h2⟩ := h
  rcases h2 with ⟨h3, _⟩ | ⟨g', cap', cur, h3, h4, h5, h6, h7, h8, h9⟩
  · cases h3
  · cases h3
    exact blk_fz h5 j
/-- A plan in memory: its nodes and leaves in rows of its own, T the blocks of all of it; what its roots are is left open. -/
def PlanA (w : World) (T : Nat → Prop) (bp : Nat) (rv : Value) (nds : List Nd) (lvs : List Nat) : Prop := ∃ an cn al cl, w.heap[bp]? = some (.cells #[.slice an nds.length cn, rv, .slice al lvs.length cl] 72 (0, 0)) ∧ w.ownsRow 0 119 5 (.slice an nds.length cn) nds.length (encNd nds) ∧ w.ownsRow 0 3 1 (.slice al lvs.length cl) lvs.length (lvs.map encI) ∧ T bp ∧ (∀ b, (Value.slice an nds.length cn).ownBlock = some b → T b) ∧ (∀ b, (Value.slice al lvs.length cl).ownBlock = some b → T b)
theorem PlanA.move {w w' : World} {T T' : Nat → Prop} {bp : Nat} {rv : Value} {nds : List Nd} {lvs : List Nat} (h : PlanA w T bp rv nds lvs) (hk : ∀ b, T b → b < w.heap.size → w'.heap[b]? = w.heap[b]?) (hT : ∀ b, T b → T' b) : PlanA w' T' bp rv nds lvs := by
  obtain ⟨an, cn, al, cl, h1, h2, h3, h4, h5, h6⟩ := h; (exact ⟨an, cn, al, cl, (hk _ h4 (lt_of_block h1)).trans h1, rowM_move h2 fun g _ e hg => hk g (h5 g e) (lt_of_block hg), rowM_move h3 fun g _ e hg => hk g (h6 g e) (lt_of_block hg), hT _ h4, fun b e => hT _ (h5 b e), fun b e => hT _ (h6 b e)⟩)
theorem PlanA.up {w w' : World} {T : Nat → Prop} {bp : Nat} {rv : Value} {nds : List Nd} {lvs : List Nat} (h : PlanA w T bp rv nds lvs) (hb : Below w.heap.size w w') : PlanA w' T bp rv nds lvs :=
  h.move (fun b _ hlt => hb.block b hlt) (fun _ h => h)
theorem PlanA.weak {w : World} {T T' : Nat → Prop} {bp : Nat} {rv : Value} {nds : List Nd} {lvs : List Nat} (h : PlanA w T bp rv nds lvs) (hT : ∀ b, T b → T' b) : PlanA w T' bp rv nds lvs :=
  h.move (fun _ _ _ => rfl) hT
def AddS (m : Nat) : Prop := ∀ (f : Lm) (v : Value) (w0 : World) (T : Nat → Prop) (bp : Nat) (rv : Value) (nds : List Nd) (lvs : List Nat) (w : World), f.size < m → LFine f → LRep w0 f v → Below w0.heap.size w0 w → (∀ b, T b → w0.heap.size ≤ b) → PlanA w T bp rv nds lvs → nds.length + f.size ≤ 200 → lvs.length ≤ nds.length →
  Calls Try.prog 76 #[.pointer (some ⟨bp, 0, none⟩), v] w fun e w' => e = .returned (.int .i64 (nds.length : Nat)) ∧ PlanA w' (fun b => T b ∨ (w.heap.size ≤ b ∧ b < w'.heap.size)) bp rv (nds ++ ndsF f nds.length) (lvs ++ lvsF f nds.length) ∧ Kept (fun b => ¬ T b) w w'
theorem set3N_0 {w : World} {b : Nat} {x0 x1 x2 : Value} {T : TypeId} (h : w.heap[b]? = some (.cells #[x0, x1, x2] T (0, 0))) (v : Value) : (w.setCell ⟨b, 0, none⟩ v).heap[b]? = some (.cells #[v, x1, x2] T (0, 0)) := by
  simp [World.setCell, Array.getElem?_modify, h]
theorem set3N_2 {w : World} {b : Nat} {x0 x1 x2 : Value} {T : TypeId} (h : w.heap[b]? = some (.cells #[x0, x1, x2] T (0, 0))) (v : Value) : (w.setCell ⟨b, 2, none⟩ v).heap[b]? = some (.cells #[x0, x1, v] T (0, 0)) := by
  simp [World.setCell, Array.getElem?_modify, h]
theorem set3N_1 {w : World} {b : Nat} {x0 x1 x2 : Value} {T : TypeId} (h : w.heap[b]? = some (.cells #[x0, x1, x2] T (0, 0))) (v : Value) : (w.setCell ⟨b, 1, none⟩ v).heap[b]? = some (.cells #[x0, v, x2] T (0, 0)) := by
  simp [World.setCell, Array.getElem?_modify, h]
/-- A row that grew, in the plan's block. -/
theorem Kept.grown {ok : Nat → Prop} {a w w' : World} {ob : Option Nat} (h : Kept ok a w) (hg : w.grownBy w' ob) (ho : ∀ b, ob = some b → b < a.heap.size → ¬ ok b) : Kept ok a w' := by
  (refine ⟨hg.os.trans h.os, hg.tape.trans h.tape, hg.output.trans h.output, Nat.le_trans h.size hg.size, fun k hk hok => ?_⟩); (rw [hg.block k (Nat.lt_of_lt_of_le hk h.size) (fun e => ho k e.symm hk hok)]); exact h.block k hk hok
/-- A call's change behind others: what is made in between counts as new. -/
theorem Kept.join2 {T : Nat → Prop} {w V V1 V2 : World} (h0 : Kept (fun b => ¬ T b) w V) (h1 : Kept (fun b => ¬ T b) w V1) (h2 : Kept (fun b => ¬ (T b ∨ (w.heap.size ≤ b ∧ b < V.heap.size))) V1 V2) : Kept (fun b => ¬ T b) w V2 := by
  have := h0.size; (refine ⟨h2.os.trans h1.os, h2.tape.trans h1.tape, h2.output.trans h1.output, Nat.le_trans h1.size h2.size, fun k hk hT => ?_⟩); (rw [h2.block k (Nat.lt_of_lt_of_le hk h1.size) (fun h => by rcases h with h | h; exact hT h; omega)]); exact h1.block k hk hT
/-- The node at a place, as it is read and written. -/
theorem PlanA.kid {w : World} {T : Nat → Prop} {bp : Nat} {rv : Value} {l r : List Nd} {x : Nd} {lvs : List Nat} (h : PlanA w T bp rv (l ++ x :: r) lvs) : ∃ gn cn al cl, w.heap[bp]? = some (.cells #[.slice (some ⟨gn, 0, none⟩) (l ++ x :: r).length cn, rv, .slice al lvs.length cl] 72 (0, 0)) ∧ (l ++ x :: r).length ≤ cn ∧ T gn ∧ (∀ j, w.frozen? ⟨gn, j, none⟩ = false) ∧ (∀ j u, j < 5 → x.cells[j]? = some u → w.cell? ⟨gn, l.length * 5 + j, none⟩ = some u) ∧ ∀ (j : Nat) (y : Nd) (u : Value), j < 5 → x.cells.set j u = y.cells → PlanA (w.setCell ⟨gn, l.length * 5 + j, none⟩ u) T bp rv (l ++ y :: r) lvs := by
  obtain ⟨an, cn, al, cl, h1, h2, h3, h4, h5, h6⟩ := h; (obtain ⟨g, rfl, hc⟩ := rowM_cells h2 (by simp only [List.length_append, List.length_cons]; omega))
  have hg : ∃ cur, w.heap[g]? = some (.cells cur 119 (0, 0)) := by
    obtain ⟨_, h⟩ := h2
    rcases h with ⟨h, _⟩ | ⟨g', cap', cur, e, _, h, _⟩
    · cases h
    · cases e; exact ⟨cur, h⟩
  obtain ⟨cur, hcur⟩ := hg; (refine ⟨g, cn, al, cl, h1, (rowM_caps h2).1, h5 g rfl, fun j => row_fz h2 j, fun j u hj hu => ?_, fun j y u hj hy => ?_⟩)
  · have := hc (l.length * 5 + j) u (by rw [encNd_get (x := x) (by simp) j hj]; exact hu)
    rwa [Nat.zero_add] at this
  · have far : ∀ (b : Nat) (c : Array Value) (T : TypeId), w.heap[b]? = some (.cells c T (0, 0)) → T ≠ 119 → (w.setCell ⟨g, l.length * 5 + j, none⟩ u).heap[b]? = w.heap[b]? := fun b c T9 hb hT => Below.heap_setCell _ _ _ _ (fun e => by
      have e2 : b = g := e; rw [e2, hcur] at hb; simp only [Option.some.injEq, Obj.cells.injEq] at hb
      exact hT hb.2.1.symm)
    (have e9 : (l ++ y :: r).length = (l ++ x :: r).length := by simp); (refine ⟨some ⟨g, 0, none⟩, cn, al, cl, ?_, ?_, rowM_move h3 fun b c _ hh => far b c _ hh (by decide), h4, ?_, h6⟩)
    · rw [e9]; exact (far _ _ _ h1 (by decide)).trans h1
    · rw [e9, ← encNd_set l r x y j hj u hy]; exact row_put h2 _ u
    · rw [e9]; exact h5
theorem rowN16 (l : List Value) (h0 : l.length = 16) : ∃ x0 x1 x2 x3 x4 x5 x6 x7 x8 x9 x10 x11 x12 x13 x14 x15, l = [x0, x1, x2, x3, x4, x5, x6, x7, x8, x9, x10, x11, x12, x13, x14, x15] := by
  obtain ⟨x0, l1, e0, h1⟩ := cons_lenM h0; obtain ⟨x1, l2, e1, h2⟩ := cons_lenM h1; obtain ⟨x2, l3, e2, h3⟩ := cons_lenM h2; obtain ⟨x3, l4, e3, h4⟩ := cons_lenM h3; obtain ⟨x4, l5, e4, h5⟩ := cons_lenM h4; obtain ⟨x5, l6, e5, h6⟩ := cons_lenM h5; obtain ⟨x6, l7, e6, h7⟩ := cons_lenM h6; obtain ⟨x7, l8, e7, h8⟩ := cons_lenM h7; obtain ⟨x8, l9, e8, h9⟩ := cons_lenM h8; obtain ⟨x9, l10, e9, h10⟩ := cons_lenM h9; obtain ⟨x10, l11, e10, h11⟩ := cons_lenM h10; obtain ⟨x11, l12, e11, h12⟩ := cons_lenM h11; obtain ⟨x12, l13, e12, h13⟩ := cons_lenM h12; obtain ⟨x13, l14, e13, h14⟩ := cons_lenM h13; obtain ⟨x14, l15, e14, h15⟩ := cons_lenM h14; obtain ⟨x15, l16, e15, h16⟩ := cons_lenM h15; have e16 : l16 = [] := List.length_eq_zero_iff.1 h16; subst e16 e15 e14 e13 e12 e11 e10 e9 e8 e7 e6 e5 e4 e3 e2 e1 e0; exact ⟨x0, x1, x2, x3, x4, x5, x6, x7, x8, x9, x10, x11, x12, x13, x14, x15, rfl⟩
set_option maxRecDepth 10000 in
set_option maxHeartbeats 8000000 in
theorem add_step (m : Nat) (ih : AddS m) : AddS (m + 1) := by
  intro f v w0 T bp rv nds lvs w hm hfine hrep hbw hT hpl hn200 hlv; obtain ⟨k, n, g, ks⟩ := f; have HRep : Hid (LRep w0 (.mk k n g ks) v) := hrep; obtain ⟨sl, cap, rfl, hx1, hx2, hx3, -⟩ := LRep.def.1 hrep; obtain ⟨an, cn, al, cl, h1, h2, h3, h4, h5, h6⟩ := hpl; (have hlen : ((ks.length : Nat) : Int) ≤ 9223372036854775807 := by unfold maxLen at hx3; omega); (have hndI : (nds.length : Int) ≤ 199 := by rw [Lm.size] at hn200; omega); have HLn : Hid (nds.length + (Lm.mk k n g ks).size ≤ 200 ∧ lvs.length ≤ nds.length) := ⟨hn200, hlv⟩; have HTn : Hid (∀ b, (Value.slice an nds.length cn).ownBlock = some b → T b) := h5; have HTl : Hid (∀ b, (Value.slice al lvs.length cl).ownBlock = some b → T b) := h6; have HTp : Hid (T bp) := h4; have HT0 : Hid (∀ b, T b → w0.heap.size ≤ b) := hT; have HBw : Hid (Below w0.heap.size w0 w) := hbw; obtain ⟨X, hX⟩ : ∃ X, X = w.alloc (.cells #[.int .i64 k, .string n, .bool g, .slice sl ks.length cap] 52 (0, 0)) := ⟨_, rfl⟩; (have hbX : Below w.heap.size w X := by rw [hX]; exact below_more (Below.refl _ _) _); have HXp : Hid (X.heap[bp]? = some (.cells #[.slice an nds.length cn, rv, .slice al lvs.length cl] 72 (0, 0))) := below_keep hbX h1; (have HXf : Hid (X.heap[w.heap.size]? = some (.cells #[.int .i64 k, .string n, .bool g, .slice sl ks.length cap] 52 (0, 0))) := by rw [hX]; exact blk_new _ _); have HXn : Hid (X.ownsRow 0 119 5 (.slice an nds.length cn) nds.length (encNd nds)) := rowM_up h2 hbX; have HXl : Hid (X.ownsRow 0 3 1 (.slice al lvs.length cl) lvs.length (lvs.map encI)) := rowM_up h3 hbX; (have HXk : Hid (Kept (fun b => ¬ T b) w X) := kept_of_below hbX (fun _ h _ => h)); obtain ⟨k0, k1, k2, -⟩ := blk3 HXp.out; have hXe := hX.symm; have HX1 : Hid (n.size ≤ maxLen) := hx1; clear hX hbX h1 h2 h3 h4 h5 h6 hT hbw hrep hn200 hlv hx1 hx2 hx3
  go_enter Try.func76, Try.ntmps76
  go_wp2_with fail; clear hXe k0 k1 k2; (refine wp_region_wrt (by kernel_rfl) [fun v _ => v = (.pointer (some ⟨bp, 0, none⟩)), fun v _ => v = (.pointer (some ⟨bp, 0, none⟩)), fun v _ => v = (.pointer (some ⟨bp, 0, none⟩)), fun v _ => v = (.pointer (some ⟨bp, 0, none⟩)), fun v _ => v = (.slice an nds.length cn), fun v _ => v = (.pointer (some ⟨w.heap.size, 0, none⟩)), fun v _ => v = (.int .i64 k), fun v _ => v = (.pointer (some ⟨w.heap.size, 1, none⟩)), fun v _ => v = (.string n), fun v _ => v = (.pointer (some ⟨w.heap.size, 2, none⟩)), fun v _ => v = (.bool g), fun v _ => v = (.agg #[.int .i64 k, .string n, .bool g, .int .i64 0, .int .i64 0]), fun v w0 => ∃ q, v = .slice (some ⟨q, 0, none⟩) 1 1 ∧ w0.heap[q]? = some (.cells #[.int .i64 k, .string n, .bool g, .int .i64 0, .int .i64 0] 119 (0, 0)) ∧ X.heap.size ≤ q, fun _ _ => True, fun v _ => v = (.pointer (some ⟨bp, 0, none⟩)), fun v _ => v = (.pointer (some ⟨bp, 0, none⟩))] ?_ (by kernel_rfl) (by kernel_rfl) 65 rfl (by kernel_rfl) 16 _ rfl rfl 3 (by kernel_rfl) (fun i => if i = 0 then some (.pointer (some ⟨bp, 0, none⟩)) else if i = 14 then some (.pointer (some ⟨bp, 0, none⟩)) else if i = 15 then some (.pointer (some ⟨bp, 0, none⟩)) else none) 13 _ (by decide) rfl rfl 17 (by kernel_rfl) (fun v w0 => ∃ g3 cp3, v = (.slice (some ⟨g3, 0, none⟩) (nds.length + 1) cp3) ∧ Hid (w0.ownsRow 0 119 5 (.slice (some ⟨g3, 0, none⟩) (nds.length + 1) cp3) (nds.length + 1) (encNd nds ++ [.int .i64 k, .string n, .bool g, .int .i64 0, .int .i64 0])) ∧ Hid (w0.heap[bp]? = some (.cells #[.slice an nds.length cn, rv, .slice al lvs.length cl] 72 (0, 0))) ∧ Hid (w0.ownsRow 0 3 1 (.slice al lvs.length cl) lvs.length (lvs.map encI)) ∧ Hid (w0.heap[w.heap.size]? = some (.cells #[.int .i64 k, .string n, .bool g, .slice sl ks.length cap] 52 (0, 0))) ∧ Hid (Kept (fun b => ¬ T b) w w0) ∧ Hid (T g3 ∨ w.heap.size ≤ g3)) ?_ ?_ ?_ ?_)
  · intro p hp
    simp only [List.mem_cons, List.not_mem_nil, or_false] at hp
    rcases hp with rfl | rfl | rfl | rfl | rfl | rfl | rfl | rfl | rfl | rfl | rfl | rfl | rfl | rfl | rfl | rfl
    · exact fun _ _ _ h _ => h
    · exact fun _ _ _ h _ => h
    · exact fun _ _ _ h _ => h
    · exact fun _ _ _ h _ => h
    · exact fun _ _ _ h _ => h
    · exact fun _ _ _ h _ => h
    · exact fun _ _ _ h _ => h
    · exact fun _ _ _ h _ => h
    · exact fun _ _ _ h _ => h
    · exact fun _ _ _ h _ => h
    · exact fun _ _ _ h _ => h
    · exact fun _ _ _ h _ => h
    · rintro v w1 w2 ⟨q, e, h, hq⟩ hb
      exact ⟨q, e, below_keep hb h, hq⟩
    · exact fun _ _ _ h _ => h
    · exact fun _ _ _ h _ => h
    · exact fun _ _ _ h _ => h
  · intro j c wq hj
    by_cases h0 : j = 0
    · subst h0
      have e : some (.pointer (some ⟨bp, 0, none⟩)) = some c := hj; exact (Option.some.inj e).symm
    by_cases h14 : j = 14
    · subst h14
      have e : some (.pointer (some ⟨bp, 0, none⟩)) = some c := hj; exact (Option.some.inj e).symm
    by_cases h15 : j = 15
    · subst h15
      have e : some (.pointer (some ⟨bp, 0, none⟩)) = some c := hj; exact (Option.some.inj e).symm
    simp only [if_neg h0, if_neg h14, if_neg h15] at hj
    cases hj
  · refine ⟨?_, ?_, ?_, ?_, ?_, ?_, ?_, ?_, ?_, ?_, ?_, ?_, ?_, ?_, ?_, ?_, trivial⟩
    · show StepE _ _ _ _ _ _ _
      intro a wx hold hdep K hK; have t0 : a.tmps[0]? = some (.pointer (some ⟨bp, 0, none⟩)) := hold.2.2 0 rfl; clear hold hdep; go_simp; exact hK.out
    · show StepOk _ _ _ _ _ _ _ _
      intro a wx hB hold hdep K hK; have t0 : a.tmps[0]? = some (.pointer (some ⟨bp, 0, none⟩)) := hold.2.2 0 rfl; clear hold hdep; go_simp; exact hK.out _ _ rfl (Below.refl _ _)
    · show StepOk _ _ _ _ _ _ _ _
      intro a wx hB hold hdep K hK; obtain ⟨v14, t14, p14⟩ := hdep 1 rfl _ 14 rfl rfl; have e14 : v14 = (.pointer (some ⟨bp, 0, none⟩)) := p14; subst e14; clear hold hdep; go_simp; exact hK.out _ _ rfl (Below.refl _ _)
    · show StepOk _ _ _ _ _ _ _ _
      intro a wx hB hold hdep K hK; obtain ⟨v15, t15, p15⟩ := hdep 2 rfl _ 15 rfl rfl; have e15 : v15 = (.pointer (some ⟨bp, 0, none⟩)) := p15; subst e15; clear hold hdep; go_simp; exact hK.out _ _ rfl (Below.refl _ _)
    · show StepOk _ _ _ _ _ _ _ _
      intro a wx hB hold hdep K hK; obtain ⟨v16, t16, p16⟩ := hdep 3 rfl _ 16 rfl rfl; have e16 : v16 = (.pointer (some ⟨bp, 0, none⟩)) := p16; subst e16; obtain ⟨k0, k1, k2, -⟩ := blk3 (below_keep hB HXp.out); clear hold hdep; go_simp; exact hK.out _ _ rfl (Below.refl _ _)
    · show StepOk _ _ _ _ _ _ _ _
      intro a wx hB hold hdep K hK; have t3 : a.tmps[3]? = some (.pointer (some ⟨w.heap.size, 0, none⟩)) := hold.2.2 3 rfl; clear hold hdep; go_simp; exact hK.out _ _ rfl (Below.refl _ _)
    · show StepOk _ _ _ _ _ _ _ _
      intro a wx hB hold hdep K hK; obtain ⟨v18, t18, p18⟩ := hdep 5 rfl _ 18 rfl rfl; have e18 : v18 = (.pointer (some ⟨w.heap.size, 0, none⟩)) := p18; subst e18; obtain ⟨l0, l1, l2, l3⟩ := blk4L (below_keep hB HXf.out); clear hold hdep; go_simp; exact hK.out _ _ rfl (Below.refl _ _)
    · show StepOk _ _ _ _ _ _ _ _
      intro a wx hB hold hdep K hK; have t3 : a.tmps[3]? = some (.pointer (some ⟨w.heap.size, 0, none⟩)) := hold.2.2 3 rfl; clear hold hdep; go_simp; exact hK.out _ _ rfl (Below.refl _ _)
    · show StepOk _ _ _ _ _ _ _ _
      intro a wx hB hold hdep K hK; obtain ⟨v20, t20, p20⟩ := hdep 7 rfl _ 20 rfl rfl; have e20 : v20 = (.pointer (some ⟨w.heap.size, 1, none⟩)) := p20; subst e20; obtain ⟨l0, l1, l2, l3⟩ := blk4L (below_keep hB HXf.out); clear hold hdep; go_simp; exact hK.out _ _ rfl (Below.refl _ _)
    · show StepOk _ _ _ _ _ _ _ _
      intro a wx hB hold hdep K hK; have t3 : a.tmps[3]? = some (.pointer (some ⟨w.heap.size, 0, none⟩)) := hold.2.2 3 rfl; clear hold hdep; go_simp; exact hK.out _ _ rfl (Below.refl _ _)
    · show StepOk _ _ _ _ _ _ _ _
      intro a wx hB hold hdep K hK; obtain ⟨v22, t22, p22⟩ := hdep 9 rfl _ 22 rfl rfl; have e22 : v22 = (.pointer (some ⟨w.heap.size, 2, none⟩)) := p22; subst e22; obtain ⟨l0, l1, l2, l3⟩ := blk4L (below_keep hB HXf.out); clear hold hdep; go_simp; exact hK.out _ _ rfl (Below.refl _ _)
    · show StepOk _ _ _ _ _ _ _ _
      intro a wx hB hold hdep K hK; obtain ⟨v19, t19, p19⟩ := hdep 6 rfl _ 19 rfl rfl; have e19 : v19 = (.int .i64 k) := p19; subst e19; obtain ⟨v21, t21, p21⟩ := hdep 8 rfl _ 21 rfl rfl; have e21 : v21 = (.string n) := p21; subst e21; obtain ⟨v23, t23, p23⟩ := hdep 10 rfl _ 23 rfl rfl; have e23 : v23 = (.bool g) := p23; subst e23; clear hold hdep; go_simp; exact hK.out _ _ rfl (Below.refl _ _)
    · show StepOk _ _ _ _ _ _ _ _
      intro a wx hB hold hdep K hK; obtain ⟨v24, t24, p24⟩ := hdep 11 rfl _ 24 rfl rfl; have e24 : v24 = (.agg #[.int .i64 k, .string n, .bool g, .int .i64 0, .int .i64 0]) := p24; subst e24; have hsx := hB.size; clear hold hdep; go_simp; exact hK.out _ _ ⟨_, rfl, blk_new _ _, hsx⟩ (below_more (Below.refl _ _) _)
    · exact trivial
    · show StepE _ _ _ _ _ _ _
      intro a wx hold hdep K hK; have t13 : a.tmps[13]? = some (.pointer (some ⟨bp, 0, none⟩)) := hdep 0 rfl _ 13 _ rfl rfl rfl; clear hold hdep; go_simp; exact hK.out
    · show StepE _ _ _ _ _ _ _
      intro a wx hold hdep K hK; have t27 : a.tmps[27]? = some (.pointer (some ⟨bp, 0, none⟩)) := hdep 14 rfl _ 27 _ rfl rfl rfl; clear hold hdep; go_simp; exact hK.out
  · intro a wx hB hold hgot K hK
    (obtain ⟨v17, tv17, pv17⟩ := hgot 4 _ 17 (by decide) (by decide) rfl rfl rfl); have ev17 : v17 = (.slice an nds.length cn) := pv17; subst ev17; (obtain ⟨v25, tv25, pv25⟩ := hgot 12 _ 25 (by decide) (by decide) rfl rfl rfl); obtain ⟨q, rfl, hq, hq2⟩ := pv25; obtain ⟨i0, hi0, hz0, hz1, hz2⟩ := infoNd; have hn2 := HLn.out; have hrow := rowM_up HXn.out hB; have hlow := hrow.lt; (have hkw : Kept (fun b => ¬ T b) w wx := HXk.out.trans (kept_of_below hB (fun _ h _ => h))); clear hold hgot; (refine step_append_lies wx rfl _ _ 69 rfl 0 119 i0 (.agg #[.int .i64 0, .string ⟨#[]⟩, .bool false, .int .i64 0, .int .i64 0]) 5 48 Try.underlying69 hi0 hz0 hz1 hz2 rfl (by decide) (.slice an nds.length cn) nds.length (encNd nds) (eval_tmpM tv17) hrow ⟨q, 0, none⟩ 1 1 [.int .i64 k, .string n, .bool g, .int .i64 0, .int .i64 0] (eval_tmpM tv25) rfl ?_ ?_ (by omega) (by unfold maxLen; omega) (by omega) (by omega) _ rfl ?_)
    · intro j u hu
      rw [add_none, Nat.zero_add, blk_cell hq]; simpa using hu
    · exact cells_one ⟨k, n, g, 0, 0⟩
    intro g3 cp3 w3 hown3 hgrow hat hlt3; have hgrow' : wx.grownBy w3 (Value.slice an nds.length cn).ownBlock := hgrow; (have far : ∀ (b : Nat) (cur : Array Value) (T : TypeId), wx.heap[b]? = some (.cells cur T (0, 0)) → T ≠ 119 → w3.heap[b]? = wx.heap[b]? := fun b cur T hb hT => hgrow'.block b (lt_of_block hb) fun e2 => rowM_ne hrow hb hT e2.symm); have hpb := below_keep hB HXp.out; have hfb := below_keep hB HXf.out; refine hK.out _ _ ⟨g3, cp3, rfl, hown3, ?_, ?_, ?_, ?_, ?_⟩
    · exact (far _ _ _ hpb (by decide)).trans hpb
    · exact rowM_move (rowM_up HXl.out hB) fun g cur _ hh => far g cur _ hh (by decide)
    · exact (far _ _ _ hfb (by decide)).trans hfb
    · exact hkw.grown hgrow' fun b e _ hn => hn (HTn.out b e)
    · rcases hat with e | e
      · exact Or.inl (HTn.out g3 e)
      · exact Or.inr (by have := hkw.size; omega)
  · intro a wx hold hpx hpu K hK
    (have t28 : a.tmps[28]? = some (.pointer (some ⟨bp, 0, none⟩)) := hpu 15 _ 28 _ rfl (by decide) rfl rfl); obtain ⟨v26, t26, g3, cp3, rfl, HN3, HP3, HL3, HF3, HK3, HT3⟩ := hpx 26 rfl; obtain ⟨tm, df⟩ := a; (obtain ⟨ys, hys, htm, rfl⟩ := frame_mid2 13 16 (by kernel_rfl) (Nat.le_of_ble_eq_true rfl) hold); obtain ⟨x13, x14, x15, x16, x17, x18, x19, x20, x21, x22, x23, x24, x25, x26, x27, x28, rfl⟩ := rowN16 ys hys; simp only [List.take_succ_cons, List.take_zero, List.drop_succ_cons, List.drop_zero, List.cons_append, List.nil_append] at htm; subst htm; obtain rfl : x26 = _ := someInjM t26; obtain rfl : x28 = _ := someInjM t28; obtain ⟨z0, z1, z2, y0, y1, y2⟩ := blk3 HP3.out; clear hys hold hpx hpu t26 t28; go_simp; have HB3 : Hid ((wx.setCell ⟨bp, 0, none⟩ (.slice (some ⟨g3, 0, none⟩) (nds.length + 1) cp3)).heap[bp]? = some (.cells #[.slice (some ⟨g3, 0, none⟩) (nds.length + 1) cp3, rv, .slice al lvs.length cl] 72 (0, 0))) := set3N_0 HP3.out _
    have far : ∀ (b : Nat) (cur : Array Value) (T : TypeId), wx.heap[b]? = some (.cells cur T (0, 0)) → T ≠ 72 → (wx.setCell ⟨bp, 0, none⟩ (.slice (some ⟨g3, 0, none⟩) (nds.length + 1) cp3)).heap[b]? = wx.heap[b]? := fun b cur T9 hb hT => Below.heap_setCell _ _ _ _ (fun e => by
      have e2 : b = bp := e; rw [e2, HP3.out] at hb; simp only [Option.some.injEq, Obj.cells.injEq] at hb
      exact hT hb.2.1.symm)
    (have HN4 := rowM_move HN3.out fun g cur _ hh => far g cur _ hh (by decide)); (have HL4 := rowM_move HL3.out fun g cur _ hh => far g cur _ hh (by decide)); (have HF4 := (far _ _ _ HF3.out (by decide)).trans HF3.out); (have HK4 : Kept (fun b => ¬ T b) w (wx.setCell ⟨bp, 0, none⟩ (.slice (some ⟨g3, 0, none⟩) (nds.length + 1) cp3)) := HK3.out.setCell (fun _ hn => hn HTp.out) _); obtain ⟨Z, hZ⟩ : ∃ Z, Z = wx.setCell ⟨bp, 0, none⟩ (.slice (some ⟨g3, 0, none⟩) (nds.length + 1) cp3) := ⟨_, rfl⟩; rw [← hZ] at HB3 HN4 HL4 HF4 HK4 ⊢; have HZp : Hid (Z.heap[bp]? = some (.cells #[.slice (some ⟨g3, 0, none⟩) (nds.length + 1) cp3, rv, .slice al lvs.length cl] 72 (0, 0))) := HB3.out; have HZn : Hid (Z.ownsRow 0 119 5 (.slice (some ⟨g3, 0, none⟩) (nds.length + 1) cp3) (nds.length + 1) (encNd nds ++ [.int .i64 k, .string n, .bool g, .int .i64 0, .int .i64 0])) := HN4; have HZl : Hid (Z.ownsRow 0 3 1 (.slice al lvs.length cl) lvs.length (lvs.map encI)) := HL4; have HZf : Hid (Z.heap[w.heap.size]? = some (.cells #[.int .i64 k, .string n, .bool g, .slice sl ks.length cap] 52 (0, 0))) := HF4; (have HZk : Hid (Kept (fun b => ¬ T b) w Z) := HK4); clear hZ far HN4 HL4 HF4 HK4 HB3 HN3 HP3 HL3 HF3 HK3 z0 z1 z2 y0 y1 y2 HXp HXf HXn HXl HXk; refine hK.out _ _ ?_; clear hK; obtain ⟨l0, l1, l2, l3⟩ := blk4L HZf.out; obtain ⟨z0, z1, z2, z3, z4, z5⟩ := blk3 HZp.out
    cases hfine with
    | atom _ _ hnm =>
      obtain ⟨i0, hi0, hz0, hz1, hz2⟩ := infoI9; have hzp := lt_of_block HZp.out
      go_wp2_with (first
        | (at_builtin
           have hrow := rowM_up HZl.out ((Below.refl _ Z).alloc (Nat.le_refl _) (.cells #[.int .i64 (nds.length : Nat)] 3 (0, 0))); have hln := HLn.out; (refine wpList_append_lies _ rfl _ _ 70 rfl 0 3 i0 (.int .i64 0) 1 8 Try.underlying70 hi0 hz0 hz1 hz2 rfl (by decide) (.slice al lvs.length cl) lvs.length (lvs.map encI) rfl hrow ⟨Z.heap.size, 0, none⟩ 1 1 [.int .i64 (nds.length : Nat)] rfl rfl ?_ ?_ (by omega) (by unfold maxLen; omega) (by omega) (by simp) _ rfl ?_)
           · intro j u hu
             rw [add_none, Nat.zero_add, blk_cell (blk_new Z _)]; simpa using hu
           · intro u hu
             simp at hu; subst hu; rfl
           intro g4 cp4 w4 hown4 hgrow hat hlt4; have hgrow' : (Z.alloc (.cells #[.int .i64 (nds.length : Nat)] 3 (0, 0))).grownBy w4 (Value.slice al lvs.length cl).ownBlock := hgrow; (have far : ∀ (b : Nat) (cur : Array Value) (T : TypeId), Z.heap[b]? = some (.cells cur T (0, 0)) → T ≠ 3 → w4.heap[b]? = Z.heap[b]? := fun b cur T9 hb hT => (hgrow'.block b (by have := lt_of_block hb; simp; omega) fun e2 => rowM_ne HZl.out hb hT e2.symm).trans (Below.heap_alloc _ _ _ (lt_of_block hb))); (have HP4 : Hid (w4.heap[bp]? = some (.cells #[.slice (some ⟨g3, 0, none⟩) (nds.length + 1) cp3, rv, .slice al lvs.length cl] 72 (0, 0))) := (far _ _ _ HZp.out (by decide)).trans HZp.out); (have HF4 : Hid (w4.heap[w.heap.size]? = some (.cells #[.int .i64 1, .string n, .bool g, .slice sl 0 cap] 52 (0, 0))) := (far _ _ _ HZf.out (by decide)).trans HZf.out); (have HN4 : Hid (w4.ownsRow 0 119 5 (.slice (some ⟨g3, 0, none⟩) (nds.length + 1) cp3) (nds.length + 1) (encNd nds ++ [.int .i64 1, .string n, .bool g, .int .i64 0, .int .i64 0])) := rowM_move HZn.out fun g cur _ hh => far g cur _ hh (by decide)); have HL4 : Hid (w4.ownsRow 0 3 1 (.slice (some ⟨g4, 0, none⟩) (lvs.length + 1) cp4) (lvs.length + 1) (lvs.map encI ++ [.int .i64 (nds.length : Nat)])) := hown4; (have HK4 : Hid (Kept (fun b => ¬ T b) w w4) := (HZk.out.alloc _).grown hgrow' fun b e _ hn => hn (HTl.out b e))
           have HT4 : Hid (T g4 ∨ w.heap.size ≤ g4) := by
             rcases hat with e | e
             · exact Or.inl (HTl.out g4 e)
             · exact Or.inr (by have := HZk.out.size; simp at e; omega)
           clear hgrow hgrow' hat hown4 hrow hlt4 far hi0 hz0 hz1 hz2 hln z0 z1 z2 z3 z4 z5 l0 l1 l2 l3 hzp; obtain ⟨z0, z1, z2, z3, z4, z5⟩ := blk3 HP4.out; obtain ⟨U, hU⟩ : ∃ U, U = w4.setCell ⟨bp, 2, none⟩ (.slice (some ⟨g4, 0, none⟩) (lvs.length + 1) cp4) := ⟨_, rfl⟩
           have faU : ∀ (b : Nat) (cur : Array Value) (T : TypeId), w4.heap[b]? = some (.cells cur T (0, 0)) → T ≠ 72 → U.heap[b]? = w4.heap[b]? := fun b cur T9 hb hT => by
             rw [hU]
             exact Below.heap_setCell _ _ _ _ (fun e => by
               have e2 : b = bp := e; rw [e2, HP4.out] at hb; simp only [Option.some.injEq, Obj.cells.injEq] at hb
               exact hT hb.2.1.symm)
           (have HUp : Hid (U.heap[bp]? = some (.cells #[.slice (some ⟨g3, 0, none⟩) (nds.length + 1) cp3, rv, .slice (some ⟨g4, 0, none⟩) (lvs.length + 1) cp4] 72 (0, 0))) := by rw [hU]; exact set3N_2 HP4.out _); (have HUn : Hid (U.ownsRow 0 119 5 (.slice (some ⟨g3, 0, none⟩) (nds.length + 1) cp3) (nds.length + 1) (encNd nds ++ [.int .i64 1, .string n, .bool g, .int .i64 0, .int .i64 0])) := rowM_move HN4.out fun g cur _ hh => faU g cur _ hh (by decide)); (have HUl : Hid (U.ownsRow 0 3 1 (.slice (some ⟨g4, 0, none⟩) (lvs.length + 1) cp4) (lvs.length + 1) (lvs.map encI ++ [.int .i64 (nds.length : Nat)])) := rowM_move HL4.out fun g cur _ hh => faU g cur _ hh (by decide)); (have HUf : Hid (U.heap[w.heap.size]? = some (.cells #[.int .i64 1, .string n, .bool g, .slice sl 0 cap] 52 (0, 0))) := (faU _ _ _ HF4.out (by decide)).trans HF4.out); (have HUk : Hid (Kept (fun b => ¬ T b) w U) := by rw [hU]; exact HK4.out.setCell (fun _ hn => hn HTp.out) _); have hUe := hU.symm; obtain ⟨u0, u1, u2, u3⟩ := blk4L HUf.out
           clear hU faU HP4 HF4 HN4 HL4 HK4)
        | fail)
      go_loopg [45] 0 (fun gg cc wr => gg = 0 ∧ cc = .int .i64 0 ∧ wr = U)
      case atStart => exact ⟨rfl, rfl, rfl⟩
      case round =>
        obtain ⟨rfl, rfl, rfl⟩ := hrel; go_wp2_with fail; go_ret; refine ⟨rfl, ?_, HUk.out⟩; (have e1 : ndsF (.mk 1 n g []) nds.length = [⟨1, n, g, 0, 0⟩] := by rw [ndsF, ndsL]; rfl); (have e2 : lvsF (.mk 1 n g []) nds.length = [nds.length] := by rw [lvsF, lvsL]; rfl); rw [e1, e2]; have hz := HUk.out.size; refine ⟨some ⟨g3, 0, none⟩, cp3, some ⟨g4, 0, none⟩, cp4, ?_, ?_, ?_, Or.inl HTp.out, ?_, ?_⟩
        · rw [List.length_append, List.length_append]
          exact HUp.out
        · rw [List.length_append, encNd_app]
          exact HUn.out
        · rw [List.length_append, List.map_append]
          exact HUl.out
        · intro b e
          cases e
          rcases HT3.out with h | h
          · exact Or.inl h
          · exact Or.inr ⟨h, (HUn.out.lt _ rfl).2⟩
        · intro b e
          cases e
          rcases HT4.out with h | h
          · exact Or.inl h
          · exact Or.inr ⟨h, (HUl.out.lt _ rfl).2⟩
    | two _ f1 f2 hk hf1 hf2 =>
      (have hk1 : (k == 1) = false := by simp; omega)
      have HZA : Hid (PlanA Z (fun b => T b ∨ (w.heap.size ≤ b ∧ b < Z.heap.size)) bp rv (nds ++ ⟨k, ⟨#[]⟩, false, 0, 0⟩ :: []) lvs) := by
        (refine ⟨some ⟨g3, 0, none⟩, cp3, al, cl, ?_, ?_, HZl.out, Or.inl HTp.out, ?_, fun b e => Or.inl (HTl.out b e)⟩)
        · rw [List.length_append]
          exact HZp.out
        · rw [List.length_append, encNd_app]
          exact HZn.out
        · intro b e
          cases e
          rcases HT3.out with h | h
          · exact Or.inl h
          · exact Or.inr ⟨h, (HZn.out.lt _ rfl).2⟩
      (obtain ⟨mid, hmid⟩ : ∃ mid : Nat → List Nd, mid = fun i => match i with | 0 => nds ++ ⟨k, ⟨#[]⟩, false, 0, 0⟩ :: [] | 1 => nds ++ ⟨k, ⟨#[]⟩, false, nds.length + 1, 0⟩ :: ndsF f1 (nds.length + 1) | _ => nds ++ ⟨k, ⟨#[]⟩, false, nds.length + 1, nds.length + 1 + f1.size⟩ :: (ndsF f1 (nds.length + 1) ++ ndsF f2 (nds.length + 1 + f1.size)) := ⟨_, rfl⟩); (obtain ⟨lmi, hlmi⟩ : ∃ lmi : Nat → List Nat, lmi = fun i => match i with | 0 => lvs | 1 => lvs ++ lvsF f1 (nds.length + 1) | _ => lvs ++ lvsF f1 (nds.length + 1) ++ lvsF f2 (nds.length + 1 + f1.size) := ⟨_, rfl⟩); (have HM0 : Hid (mid 0 = nds ++ ⟨k, ⟨#[]⟩, false, 0, 0⟩ :: [] ∧ lmi 0 = lvs) := by rw [hmid, hlmi]; exact ⟨rfl, rfl⟩); (have HM1 : Hid (mid 1 = nds ++ ⟨k, ⟨#[]⟩, false, nds.length + 1, 0⟩ :: ndsF f1 (nds.length + 1) ∧ lmi 1 = lvs ++ lvsF f1 (nds.length + 1)) := by rw [hmid, hlmi]; exact ⟨rfl, rfl⟩); (have HM2 : Hid (mid 2 = nds ++ ⟨k, ⟨#[]⟩, false, nds.length + 1, nds.length + 1 + f1.size⟩ :: (ndsF f1 (nds.length + 1) ++ ndsF f2 (nds.length + 1 + f1.size)) ∧ lmi 2 = lvs ++ lvsF f1 (nds.length + 1) ++ lvsF f2 (nds.length + 1 + f1.size)) := by rw [hmid, hlmi]; exact ⟨rfl, rfl⟩)
      have HSz : Hid (nds.length + (f1.size + f2.size + 1) ≤ 200 ∧ lvs.length ≤ nds.length ∧ f1.size < m ∧ f2.size < m) := by
        have := HLn.out; simp only [Lm.size, Lm.sizes] at this hm; (refine ⟨?_, this.2, ?_, ?_⟩ <;> omega)
      obtain ⟨nm1, hnm1⟩ : ∃ nm, nm = nds.length + 1 := ⟨_, rfl⟩; obtain ⟨nm2, hnm2⟩ : ∃ nm, nm = nds.length + 1 + f1.size := ⟨_, rfl⟩; have HNm1 : Hid (nm1 = nds.length + 1) := hnm1; have HNm2 : Hid (nm2 = nds.length + 1 + f1.size) := hnm2
      have HI1 : Hid (∀ (v : Value) (T : Nat → Prop) (w : World), LRep w0 f1 v → Below w0.heap.size w0 w → (∀ b, T b → w0.heap.size ≤ b) → PlanA w T bp rv (nds ++ ⟨k, ⟨#[]⟩, false, 0, 0⟩ :: []) lvs → Calls Try.prog 76 #[.pointer (some ⟨bp, 0, none⟩), v] w fun e w' => e = .returned (.int .i64 (nm1 : Nat)) ∧ PlanA w' (fun b => T b ∨ (w.heap.size ≤ b ∧ b < w'.heap.size)) bp rv (nds ++ ⟨k, ⟨#[]⟩, false, 0, 0⟩ :: ndsF f1 (nds.length + 1)) (lvs ++ lvsF f1 (nds.length + 1)) ∧ Kept (fun b => ¬ T b) w w') := fun v T w h1 h2 h3 h4 => by
        have hs := HSz.out; (have h5 := ih f1 v w0 T bp rv _ lvs w hs.2.2.1 hf1 h1 h2 h3 h4 (by simp only [List.length_append, List.length_cons, List.length_nil]; omega) (by simp only [List.length_append, List.length_cons, List.length_nil]; omega)); simp only [List.length_append, List.length_cons, List.length_nil, List.append_assoc, List.cons_append, List.nil_append, Nat.zero_add] at h5; rw [hnm1]; exact h5
      have HI2 : Hid (∀ (v : Value) (T : Nat → Prop) (w : World), LRep w0 f2 v → Below w0.heap.size w0 w → (∀ b, T b → w0.heap.size ≤ b) → PlanA w T bp rv (nds ++ ⟨k, ⟨#[]⟩, false, nds.length + 1, 0⟩ :: ndsF f1 (nds.length + 1)) (lvs ++ lvsF f1 (nds.length + 1)) → Calls Try.prog 76 #[.pointer (some ⟨bp, 0, none⟩), v] w fun e w' => e = .returned (.int .i64 (nm2 : Nat)) ∧ PlanA w' (fun b => T b ∨ (w.heap.size ≤ b ∧ b < w'.heap.size)) bp rv (nds ++ ⟨k, ⟨#[]⟩, false, nds.length + 1, 0⟩ :: (ndsF f1 (nds.length + 1) ++ ndsF f2 (nds.length + 1 + f1.size))) (lvs ++ lvsF f1 (nds.length + 1) ++ lvsF f2 (nds.length + 1 + f1.size)) ∧ Kept (fun b => ¬ T b) w w') := fun v T w h1 h2 h3 h4 => by
        have hs := HSz.out; have hl1 := lvsF_len f1 (nds.length + 1); (have h5 := ih f2 v w0 T bp rv _ _ w hs.2.2.2 hf2 h1 h2 h3 h4 (by simp only [List.length_append, List.length_cons, ndsF_len]; omega) (by simp only [List.length_append, List.length_cons, ndsF_len]; omega))
        have e : (nds ++ ⟨k, ⟨#[]⟩, false, nds.length + 1, 0⟩ :: ndsF f1 (nds.length + 1)).length = nds.length + 1 + f1.size := by
          simp only [List.length_append, List.length_cons, ndsF_len]; omega
        rw [e] at h5; simp only [List.append_assoc, List.cons_append] at h5 ⊢; rw [hnm2]; exact h5
      have HKid : Hid (LL w0 (.slice sl 2 cap) [f1, f2]) := HRep.out.kidsL
      have HT9 : Hid (∀ (W : World) b, Kept (fun b => ¬ T b) w W → (T b ∨ (w.heap.size ≤ b ∧ b < W.heap.size)) → w0.heap.size ≤ b) := fun W b _ h => by
        rcases h with h | h
        · exact HT0.out b h
        · have := HBw.out.size; omega
      (have HW0 : Hid (∀ W : World, Kept (fun b => ¬ T b) w W → Below w0.heap.size w0 W) := fun W h => HBw.out.trans (h.below HBw.out.size fun b hb hT => by have := HT0.out b hT; omega)); (have HZm : Hid (PlanA Z (fun b => T b ∨ (w.heap.size ≤ b ∧ b < Z.heap.size)) bp rv (mid 0) (lmi 0)) := by rw [HM0.out.1, HM0.out.2]; exact HZA.out); clear hmid hlmi hm hf1 hf2 hnm1 hnm2; go_wp2_with fail; clear HZp HZn HZl HZf HZA z0 z1 z2 z3 z4 z5 l0 l1 l2 l3
      go_loopg [45] 2 (fun gg cc wr => ∃ i, i ≤ 2 ∧ gg = 2 - i ∧ cc = .int .i64 (i : Nat) ∧ Hid (PlanA wr (fun b => T b ∨ (w.heap.size ≤ b ∧ b < wr.heap.size)) bp rv (mid i) (lmi i)) ∧ Hid (Kept (fun b => ¬ T b) w wr))
      case atStart => exact ⟨0, by omega, by omega, rfl, HZm, HZk⟩
      case round =>
        obtain ⟨i, hi, hg, rfl, HP, HK⟩ := hrel; have HGk : Hid (gk = 2 - i) := hg; clear hg; obtain ⟨V, hV⟩ : ∃ V, V = wr := ⟨_, rfl⟩; subst hV; (have hi3 : i = 0 ∨ i = 1 ∨ i = 2 := by omega)
        rcases hi3 with rfl | rfl | rfl
        · obtain ⟨⟨kk, nn, gg, kks⟩, hff⟩ : ∃ f, f = f1 := ⟨_, rfl⟩
          (have hki : [f1, f2][0]? = some (.mk kk nn gg kks) := by rw [hff]; rfl); obtain ⟨b9, o9, sl9, cap9, rfl, y0, y1, y2, y3, hr9⟩ := HKid.out.at 0 kk nn gg kks hki; rw [hff] at hr9; have hW0 := HW0.out V HK.out; (have x0 : V.cell? ⟨b9, o9, none⟩ = some (.int .i64 kk) := by simpa using (hW0.cell (lt_of_cell y0)).trans y0); (have x1 : V.cell? ⟨b9, o9 + 1, none⟩ = some (.string nn) := by simpa using (hW0.cell (lt_of_cell y1)).trans y1); (have x2 : V.cell? ⟨b9, o9 + 2, none⟩ = some (.bool gg) := by simpa using (hW0.cell (lt_of_cell y2)).trans y2); (have x3 : V.cell? ⟨b9, o9 + 3, none⟩ = some (.slice sl9 kks.length cap9) := by simpa using (hW0.cell (lt_of_cell y3)).trans y3); have HR9 : Hid (LRep w0 f1 (.agg #[.int .i64 kk, .string nn, .bool gg, .slice sl9 kks.length cap9])) := hr9; clear y0 y1 y2 y3 hr9 hki hff hi hW0; obtain ⟨V1, hV1⟩ : ∃ V1, V1 = V.alloc (.cells #[.int .i64 kk, .string nn, .bool gg, .slice sl9 kks.length cap9] 52 (0, 0)) := ⟨_, rfl⟩; (have hbV : Below V.heap.size V V1 := by rw [hV1]; exact below_more (Below.refl _ _) _); (have HVk : Hid (Kept (fun b => ¬ T b) w V1) := HK.out.trans (kept_of_below hbV (fun _ h _ => h))); (have HVp : Hid (PlanA V1 (fun b => T b ∨ (w.heap.size ≤ b ∧ b < V.heap.size)) bp rv (mid 0) (lmi 0)) := HP.out.up hbV); have HVs : Hid (w.heap.size ≤ V.heap.size ∧ V.heap.size ≤ V1.heap.size) := ⟨HK.out.size, hbV.size⟩; (obtain ⟨m0, m1, m2, m3⟩ := blk4L (show V1.heap[V.heap.size]? = some _ by rw [hV1]; exact blk_new _ _)); have hVe := hV1.symm; clear hV1 hbV; rw [HM0.out.1, HM0.out.2] at HVp; clear hk hk1 hlen; go_wp2_with fail; (refine (HI1.out _ _ _ HR9.out (HW0.out _ HVk.out) (fun b h => HT9.out V b HK.out h) HVp.out).mono ?_); rintro _ V2 ⟨rfl, hp2, hk2⟩; (have HK2 : Hid (Kept (fun b => ¬ T b) w V2) := Kept.join2 HK.out HVk.out hk2); have hzz : V1.heap.size ≤ V2.heap.size := hk2.size
          have HP2 : Hid (PlanA V2 (fun b => T b ∨ (w.heap.size ≤ b ∧ b < V2.heap.size)) bp rv (nds ++ ⟨k, ⟨#[]⟩, false, 0, 0⟩ :: ndsF f1 (nds.length + 1)) (lvs ++ lvsF f1 (nds.length + 1))) := hp2.weak fun b h => by
            have := HVs.out
            rcases h with (h | h) | h
            · exact Or.inl h
            · exact Or.inr ⟨h.1, by omega⟩
            · exact Or.inr ⟨by omega, h.2⟩
          clear hp2 hk2 m0 m1 m2 m3 x0 x1 x2 x3 hVe HVk HVp HVs HR9 hzz HP HK; obtain ⟨gn, cn2, al2, cl2, hbp, hcap, hTg, hfz, hce, hset⟩ := HP2.out.kid; have HSet : Hid (∀ j y u, j < 5 → (Nd.cells ⟨k, ⟨#[]⟩, false, 0, 0⟩).set j u = Nd.cells y → PlanA (V2.setCell ⟨gn, nds.length * 5 + j, none⟩ u) _ bp rv (nds ++ y :: ndsF f1 (nds.length + 1)) (lvs ++ lvsF f1 (nds.length + 1))) := hset; have HTg : Hid (T gn ∨ (w.heap.size ≤ gn ∧ gn < V2.heap.size)) := hTg; obtain ⟨z0, z1, z2, -⟩ := blk3 hbp; (have hll : (nds ++ ⟨k, ⟨#[]⟩, false, 0, 0⟩ :: ndsF f1 (nds.length + 1)).length = nds.length + (f1.size + 1) := by simp only [List.length_append, List.length_cons, ndsF_len]); rw [hll] at z0 hcap; (have hlI : (nds.length : Int) < ((nds.length + (f1.size + 1) : Nat) : Int) := by omega); (have hcI : ((nds.length + (f1.size + 1) : Nat) : Int) ≤ (cn2 : Int) := by omega); (have c0 : V2.cell? ⟨gn, nds.length * 5 + 3, none⟩ = some (.int .i64 0) := hce (3 + 0) (.int .i64 0) (by omega) rfl); have c1 : V2.frozen? ⟨gn, nds.length * 5 + 3, none⟩ = false := hfz _; obtain ⟨V3, hV3⟩ : ∃ V3, V3 = V2.setCell ⟨gn, nds.length * 5 + 3, none⟩ (.int .i64 (nm1 : Nat)) := ⟨_, rfl⟩; (have hz3 : V3.heap.size = V2.heap.size := by rw [hV3]; simp [World.setCell])
          have HP3 : Hid (PlanA V3 (fun b => T b ∨ (w.heap.size ≤ b ∧ b < V3.heap.size)) bp rv (mid 1) (lmi 1)) := by
            rw [HM1.out.1, HM1.out.2]; (have h9 := hset (3 + 0) ⟨k, ⟨#[]⟩, false, nds.length + 1, 0⟩ (.int .i64 (nm1 : Nat)) (by omega) (by rw [HNm1.out]; rfl)); rw [hz3, hV3]; exact h9
          have HK3 : Hid (Kept (fun b => ¬ T b) w V3) := by
            rw [hV3]
            exact HK2.out.setCell (fun hlt hn => by
              rcases HTg.out with h | h
              · exact hn h
              · have hlt2 : gn < w.heap.size := hlt
                omega) _
          have hVe := hV3.symm; clear hce hfz hset HSet hbp hTg HTg hV3 hz3 hll hcap HP2 HK2; go_wp2_with fail
          go_roundg (2 - 1)
          case measure => have := HGk.out; omega
          case rel => exact ⟨1, by omega, rfl, by go_num, HP3, HK3⟩
        · obtain ⟨⟨kk, nn, gg, kks⟩, hff⟩ : ∃ f, f = f2 := ⟨_, rfl⟩
          (have hki : [f1, f2][1]? = some (.mk kk nn gg kks) := by rw [hff]; rfl); obtain ⟨b9, o9, sl9, cap9, rfl, y0, y1, y2, y3, hr9⟩ := HKid.out.at 1 kk nn gg kks hki; rw [hff] at hr9; have hW0 := HW0.out V HK.out; (have x0 : V.cell? ⟨b9, o9 + 4, none⟩ = some (.int .i64 kk) := by simpa using (hW0.cell (lt_of_cell y0)).trans y0); (have x1 : V.cell? ⟨b9, o9 + 4 + 1, none⟩ = some (.string nn) := by simpa using (hW0.cell (lt_of_cell y1)).trans y1); (have x2 : V.cell? ⟨b9, o9 + 4 + 2, none⟩ = some (.bool gg) := by simpa using (hW0.cell (lt_of_cell y2)).trans y2); (have x3 : V.cell? ⟨b9, o9 + 4 + 3, none⟩ = some (.slice sl9 kks.length cap9) := by simpa using (hW0.cell (lt_of_cell y3)).trans y3); have HR9 : Hid (LRep w0 f2 (.agg #[.int .i64 kk, .string nn, .bool gg, .slice sl9 kks.length cap9])) := hr9; clear y0 y1 y2 y3 hr9 hki hff hi hW0; obtain ⟨V1, hV1⟩ : ∃ V1, V1 = V.alloc (.cells #[.int .i64 kk, .string nn, .bool gg, .slice sl9 kks.length cap9] 52 (0, 0)) := ⟨_, rfl⟩; (have hbV : Below V.heap.size V V1 := by rw [hV1]; exact below_more (Below.refl _ _) _); (have HVk : Hid (Kept (fun b => ¬ T b) w V1) := HK.out.trans (kept_of_below hbV (fun _ h _ => h))); (have HVp : Hid (PlanA V1 (fun b => T b ∨ (w.heap.size ≤ b ∧ b < V.heap.size)) bp rv (mid 1) (lmi 1)) := HP.out.up hbV); have HVs : Hid (w.heap.size ≤ V.heap.size ∧ V.heap.size ≤ V1.heap.size) := ⟨HK.out.size, hbV.size⟩; (obtain ⟨m0, m1, m2, m3⟩ := blk4L (show V1.heap[V.heap.size]? = some _ by rw [hV1]; exact blk_new _ _)); have hVe := hV1.symm; clear hV1 hbV; rw [HM1.out.1, HM1.out.2] at HVp; clear hk hk1 hlen; go_wp2_with fail; (refine (HI2.out _ _ _ HR9.out (HW0.out _ HVk.out) (fun b h => HT9.out V b HK.out h) HVp.out).mono ?_); rintro _ V2 ⟨rfl, hp2, hk2⟩; (have HK2 : Hid (Kept (fun b => ¬ T b) w V2) := Kept.join2 HK.out HVk.out hk2); have hzz : V1.heap.size ≤ V2.heap.size := hk2.size
          have HP2 : Hid (PlanA V2 (fun b => T b ∨ (w.heap.size ≤ b ∧ b < V2.heap.size)) bp rv (nds ++ ⟨k, ⟨#[]⟩, false, nds.length + 1, 0⟩ :: (ndsF f1 (nds.length + 1) ++ ndsF f2 (nds.length + 1 + f1.size))) (lvs ++ lvsF f1 (nds.length + 1) ++ lvsF f2 (nds.length + 1 + f1.size))) := hp2.weak fun b h => by
            have := HVs.out
            rcases h with (h | h) | h
            · exact Or.inl h
            · exact Or.inr ⟨h.1, by omega⟩
            · exact Or.inr ⟨by omega, h.2⟩
          clear hp2 hk2 m0 m1 m2 m3 x0 x1 x2 x3 hVe HVk HVp HVs HR9 hzz HP HK; obtain ⟨gn, cn2, al2, cl2, hbp, hcap, hTg, hfz, hce, hset⟩ := HP2.out.kid; have HSet : Hid (∀ j y u, j < 5 → (Nd.cells ⟨k, ⟨#[]⟩, false, nds.length + 1, 0⟩).set j u = Nd.cells y → PlanA (V2.setCell ⟨gn, nds.length * 5 + j, none⟩ u) _ bp rv (nds ++ y :: (ndsF f1 (nds.length + 1) ++ ndsF f2 (nds.length + 1 + f1.size))) (lvs ++ lvsF f1 (nds.length + 1) ++ lvsF f2 (nds.length + 1 + f1.size))) := hset; have HTg : Hid (T gn ∨ (w.heap.size ≤ gn ∧ gn < V2.heap.size)) := hTg; obtain ⟨z0, z1, z2, -⟩ := blk3 hbp; (have hll : (nds ++ ⟨k, ⟨#[]⟩, false, nds.length + 1, 0⟩ :: (ndsF f1 (nds.length + 1) ++ ndsF f2 (nds.length + 1 + f1.size))).length = nds.length + (f1.size + f2.size + 1) := by simp only [List.length_append, List.length_cons, ndsF_len]); rw [hll] at z0 hcap; (have hlI : (nds.length : Int) < ((nds.length + (f1.size + f2.size + 1) : Nat) : Int) := by omega); (have hcI : ((nds.length + (f1.size + f2.size + 1) : Nat) : Int) ≤ (cn2 : Int) := by omega); (have c0 : V2.cell? ⟨gn, nds.length * 5 + 3 + 1, none⟩ = some (.int .i64 0) := hce (3 + 1) (.int .i64 0) (by omega) rfl); have c1 : V2.frozen? ⟨gn, nds.length * 5 + 3 + 1, none⟩ = false := hfz _; obtain ⟨V3, hV3⟩ : ∃ V3, V3 = V2.setCell ⟨gn, nds.length * 5 + 3 + 1, none⟩ (.int .i64 (nm2 : Nat)) := ⟨_, rfl⟩; (have hz3 : V3.heap.size = V2.heap.size := by rw [hV3]; simp [World.setCell])
          have HP3 : Hid (PlanA V3 (fun b => T b ∨ (w.heap.size ≤ b ∧ b < V3.heap.size)) bp rv (mid 2) (lmi 2)) := by
            rw [HM2.out.1, HM2.out.2]; (have h9 := hset (3 + 1) ⟨k, ⟨#[]⟩, false, nds.length + 1, nds.length + 1 + f1.size⟩ (.int .i64 (nm2 : Nat)) (by omega) (by rw [HNm2.out]; rfl)); rw [hz3, hV3]; exact h9
          have HK3 : Hid (Kept (fun b => ¬ T b) w V3) := by
            rw [hV3]
            exact HK2.out.setCell (fun hlt hn => by
              rcases HTg.out with h | h
              · exact hn h
              · have hlt2 : gn < w.heap.size := hlt
                omega) _
          have hVe := hV3.symm; clear hce hfz hset HSet hbp hTg HTg hV3 hz3 hll hcap HP2 HK2; go_wp2_with fail
          go_roundg (2 - 2)
          case measure => have := HGk.out; omega
          case rel => exact ⟨2, by omega, rfl, by go_num, HP3, HK3⟩
        · go_wp2_with fail
          go_ret; refine ⟨rfl, ?_, HK.out⟩
          have e1 : nds ++ ndsF (.mk k ⟨#[]⟩ false [f1, f2]) nds.length = mid 2 := by
            rw [HM2.out.1, ndsF, ndsL, ndsL, ndsL, List.append_nil]; rfl
          have e2 : lvs ++ lvsF (.mk k ⟨#[]⟩ false [f1, f2]) nds.length = lmi 2 := by
            (rw [HM2.out.2, lvsF, lvsL, lvsL, lvsL, List.append_nil, if_neg (by omega), List.nil_append, List.append_assoc])
          rw [e1, e2]; exact HP.out
end Go.Proofs.Ytealalhgkdlmkai
