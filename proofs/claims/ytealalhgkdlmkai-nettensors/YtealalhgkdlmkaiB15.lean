/- Texts of one proof, one behind the other: MD6, MD7, SB8. -/
import Derived.Test.YtealalhgkdlmkaiB12
import Derived.Test.YtealalhgkdlmkaiB04
import Derived.Test.YtealalhgkdlmkaiB06
import Derived.Test.YtealalhgkdlmkaiB13
import Derived.Deep.OwnRows
import Derived.Test.YtealalhgkdlmkaiB14
import Derived.Test.YtealalhgkdlmkaiB09
import Derived.Maps.OwnSet
import Derived.Maps.OwnOps
import Derived.DeepKeys4
import Derived.RangeFuncBox
import Derived.RangeFuncLeaves
import Derived.Shelf.Abstract
import Derived.WalkKit
import Derived.OwnWalkIn
import Derived.TacticsInMore
import Derived.LoopNIn
import Derived.LoopIn
import Derived.Test.YtealalhgkdlmkaiB03
import Derived.Deep.DeepCutAuto
import Derived.Deep.CutBlock
import Derived.Deep.AppendLies
import Derived.Deep.RegionLaw
import Derived.Shelf.Sort.Plain
import Derived.Shelf.Slices.CompactS
import Derived.Shelf.Slices.In.SortNone
import Derived.Test.YtealalhgkdlmkaiProg
import Derived.Sort.OwnSorted
import Derived.Sort.Walk0
import Derived.Deep.AppendSrc
import Derived.Laws.BitsLemmas
import Derived.Deep.RegionHeld3
import Derived.Laws.EntriesVeiled
import Derived.Deep.Upon
import Derived.Lib.AppendZerosOnto
import Derived.Shelf.Strings.OnBuilder
import Derived.Shelf.Slices.Equal
import Derived.Shelf.Slices.Empties2
import Derived.RegionTactic
/- Walks: a model of one's own. -/
namespace Go.Proofs.Ytealalhgkdlmkai
open Go.RowKit Go.Sort

theorem cons_lenM {n : Nat} {l : List Value} (h : l.length = n + 1) : ∃ v t, l = v :: t ∧ t.length = n := by
  cases l with
  | nil => cases h
  | cons v t => exact ⟨v, t, rfl, by simpa using h⟩
theorem someInjM {x y : Value} (h : some x = some y) : x = y := Option.some.inj h
theorem eval_tmpM {a : Act} {n : Nat} {v : Value} (h : a.tmps[n]? = some v) : a.eval (.tmp n) = v := by
  simp [Act.eval, h]
theorem farM {W : World} {b x i : Nat} (h : x ≠ b) (v : Value) : (W.setCell ⟨b, i, none⟩ v).heap[x]? = W.heap[x]? := Below.heap_setCell _ _ _ _ (by simpa using h)
theorem rowM_ne {B : Nat} {w : World} {T T' : TypeId} {sz n g : Nat} {v : Value} {cs : List Value} {cur : Array Value} (h : w.ownsRow B T sz v n cs) (hg : w.heap[g]? = some (.cells cur T' (0, 0))) (hT : T' ≠ T) : v.ownBlock ≠ some g := fun e => by
  rcases h.2 with ⟨rfl, -⟩ | ⟨g', cap, cur', rfl, -, hh, -⟩
  · cases e
  · have : g' = g := by simpa [Value.ownBlock] using e
    subst this; rw [hh] at hg; simp only [Option.some.injEq, Obj.cells.injEq] at hg; exact hT hg.2.1.symm
end Go.Proofs.Ytealalhgkdlmkai
/- Walks: which worlds each world sees. -/
namespace Go.Proofs.Ytealalhgkdlmkai
open Go.RowKit Go.Sort

theorem infoI9 : ∃ i, Try.prog.info? 3 = some i ∧ i.zero = some (.int .i64 0) ∧ i.size = 1 ∧ i.bytes = 8 := by
  (obtain ⟨i, hi, h⟩ := Option.map_eq_some_iff.1 (show (Try.prog.info? 3).map (fun i => (i.zero, i.size, i.bytes)) = some (some (.int .i64 0), 1, 8) by kernel_rfl)); simp only [Prod.mk.injEq] at h; exact ⟨i, hi, h.1, h.2.1, h.2.2⟩
def encI (k : Nat) : Value := .int .i64 (k : Nat)
end Go.Proofs.Ytealalhgkdlmkai
/- Walks: worlds parted by their names (byNames). -/
namespace Go.Proofs.Ytealalhgkdlmkai
open Go.RowKit Go.Maps Go.WideMaps

/-- Numbers in a row of one's own. -/
def OwnN (B : Nat) (w : World) (ad : Option Addr) (cp : Nat) (l : List Nat) : Prop := w.ownsRow B 3 1 (.slice ad l.length cp) l.length (l.map encI)
end Go.Proofs.Ytealalhgkdlmkai
