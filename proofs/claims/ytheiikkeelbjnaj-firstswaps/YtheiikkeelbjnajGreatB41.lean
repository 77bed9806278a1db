/- Texts of one proof, one behind the other: MQ5. -/
import Derived.Test.YtheiikkeelbjnajGreatB36
import Derived.Test.YtheiikkeelbjnajGreatB23
import Derived.Test.YtheiikkeelbjnajGreatB07
import Derived.Test.YtheiikkeelbjnajGreatB12
import Derived.Test.YtheiikkeelbjnajGreatB10
import Derived.Shelf.Strings.OnBuilder
import Derived.Shelf.Slices.Equal
import Derived.Shelf.Slices.Empties2
import Derived.Test.YtheiikkeelbjnajGreatProg
import Derived.Deep.OwnRows
import Derived.Laws.BitsLemmas
import Derived.Deep.RegionHeld3
import Derived.Deep.RegionLaw
import Derived.Test.YtheiikkeelbjnajGreatB01
import Derived.Test.YtheiikkeelbjnajGreatB05
import Derived.RegionTactic
import Derived.Deep.Upon
import Derived.Laws.EntriesVeiled
import Derived.Test.YtheiikkeelbjnajGreatB37
/- The law MeaningPuts: what its calls say of each other. -/
namespace Go.Proofs.YtheiikkeelbjnajGreat
open Go.RowKit Go.Sort

set_option maxRecDepth 10000 in
set_option maxHeartbeats 2000000 in
theorem vastWord_any (x : Wd) (v : Value) (w : World) (h : WRp w x v) : Calls Tryz.prog 10 #[v] w fun e w' => AnyB e ∧ Below w.heap.size w w' := by
  obtain ⟨n, ar⟩ := x; have HX : Hid (WRp w (.mk n ar) v) := h; obtain ⟨sl, cap, rfl, -⟩ := WRp.def.1 h; (have HV : Hid (∀ W q, Below w.heap.size w W → W.heap[q]? = some (.cells #[.string n, .slice sl ar.length cap] 27 (0, 0)) → Calls Tryz.prog 44 #[.slice (some ⟨q, 0, none⟩) 1 1, .int .i64 0] W fun e w' => AnyB e ∧ w' = W) := fun W q hb hq => vastW_all _ [.mk n ar] _ 0 W (Nat.lt_succ_self _) (by omega) (WL.one HX.out hb hq)); clear h
  go_enter Tryz.func10, Tryz.ntmps10
  go_wp2_with (first
    | (go_at_call 44
       refine (HV.out _ _ (below_more (below_more (Below.refl _ w) _) _) (blk_secE _ _ _)).mono ?_; rintro e w2 ⟨hA, h2⟩; obtain ⟨bb, rfl⟩ := hA.get; (have HB2 : Hid (Below w.heap.size w w2) := by show Below _ _ _; rw [h2]; exact below_more (below_more (Below.refl _ w) _) _)
       clear h2 hA)
    | fail)
  go_ret; exact ⟨⟨bb, rfl⟩, HB2.out⟩
/-- Put's code zero: all that was asked. -/
theorem putC_zero {x : Ex} {nm : ByteArray} {y : Wd} {z : Ex} (h : (putC x nm y z).1 = 0) : (ecode x).1 = 0 ∧ isNm nm.data.toList = true ∧ (pwcode y).1 = 0 ∧ (ecode z).1 = 0 := by
  unfold putC at h; (obtain ⟨h1, h⟩ := code_if h fun e => e); (obtain ⟨h2, h⟩ := code_if h fun _ => by decide); (obtain ⟨h3, h⟩ := code_if h fun e => e); (obtain ⟨-, h⟩ := code_if h fun _ => by decide); (obtain ⟨h5, -⟩ := code_if h fun _ => by decide); (exact ⟨by simpa using h1, by simpa using h2, by simpa using h3, by simpa using h5⟩)
end Go.Proofs.YtheiikkeelbjnajGreat
