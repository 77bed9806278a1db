/- Texts of one proof, one behind the other: Math12, Swaps1, Swaps3. -/
import Derived.Test.YtmahgfgndfcmpabB12
import Derived.Test.YtmahgfgndfcmpabB13
import Derived.Test.YtmahgfgndfcmpabB09
import Derived.Test.YtmahgfgndfcmpabB07
import Derived.Test.YtmahgfgndfcmpabB05
import Derived.Test.YtmahgfgndfcmpabB10
import Derived.Deep.DeepCutAuto
/- What a formula for a name does to names and sizes. -/
namespace Go.Proofs.Ytmahgfgndfcmpab

theorem allN_leaf (k : Int) (n : ByteArray) : allN (.mk k n []) = [.mk k n []] := by rw [allN, allNs]
theorem allN_one (k : Int) (n : ByteArray) (f : Fm) : allN (.mk k n [f]) = .mk k n [f] :: allN f := by rw [allN, allNs, allNs, List.append_nil]
theorem allN_two (k : Int) (n : ByteArray) (f g : Fm) : allN (.mk k n [f, g]) = .mk k n [f, g] :: (allN f ++ allN g) := by rw [allN, allNs, allNs, allNs, List.append_nil]

end Go.Proofs.Ytmahgfgndfcmpab
/- Walks: what FormulaSwaps calls. -/
namespace Go.Proofs.Ytmahgfgndfcmpab
open Go.RowKit

set_option maxHeartbeats 1000000 in
theorem named_any (n : ByteArray) (w : World) :
    Calls Try.prog 37 #[.string n] w fun e w' => e = .returned (.agg #[.int .i64 1, .string n, .slice none 0 0]) ∧ Below w.heap.size w w' := by
  have B := (Below.refl w.heap.size w).alloc (Nat.le_refl _)
  go_enter Try.func37, Try.ntmps37
  go_wp2_with fail; (exact bodyPost_ret (v := .agg #[.int .i64 1, .string n, .slice none 0 0]) (by simp [results, Try.results37, go_sem]) rfl ⟨rfl, B _⟩)

theorem code_zero {f : Fm} (h : f.code.1 = 0) : f.code = (0, 0) := by
  rcases hx : chk f 0 with s | ⟨c, a⟩
  · simp only [Fm.code, hx]
  · have := chk_code f 0 c a hx
    simp only [Fm.code, hx] at h; exact absurd h this
theorem code_chk {f : Fm} (h : f.code = (0, 0)) : ∃ s, chk f 0 = .ok s := by
  rcases hx : chk f 0 with s | ⟨c, a⟩
  · exact ⟨s, rfl⟩
  · have := chk_code f 0 c a hx
    simp only [Fm.code, hx] at h; exact absurd (Prod.mk.inj h).1 this

end Go.Proofs.Ytmahgfgndfcmpab
/- Walks: FormulaSwaps, its first Put. -/
namespace Go.Proofs.Ytmahgfgndfcmpab
open Go.RowKit

theorem blk_new2 (w : World) (o o' : Obj) : ((w.alloc o).alloc o').heap[w.heap.size + 1]? = some o' := by
  have := blk_new (w.alloc o) o'
  rwa [show (w.alloc o).heap.size = w.heap.size + 1 by simp] at this
theorem keep_drew {w : World} {k : Nat} {o : Obj} (h : w.heap[k]? = some o) : w.drew.heap[k]? = some o := h

end Go.Proofs.Ytmahgfgndfcmpab
