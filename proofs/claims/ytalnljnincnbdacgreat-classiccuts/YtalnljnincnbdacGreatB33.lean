/- Texts of one proof, one behind the other: KY1. -/
import Derived.Test.YtalnljnincnbdacGreatB32
import Derived.Test.YtalnljnincnbdacGreatB13
import Derived.Test.YtalnljnincnbdacGreatB27
import Derived.Test.YtalnljnincnbdacGreatB12
/- Seven cells written; the state of the writer's region with the call of itself. -/
namespace Go.Proofs.YtalnljnincnbdacGreat
open Go.RowKit

def sev7 (w : World) (r : Nat) (v0 v1 v2 v3 v4 v5 v6 : Value) : World := ((((((w.setCell ⟨r, 0, none⟩ v0).setCell ⟨r, 1, none⟩ v1).setCell ⟨r, 2, none⟩ v2).setCell ⟨r, 3, none⟩ v3).setCell ⟨r, 4, none⟩ v4).setCell ⟨r, 5, none⟩ v5).setCell ⟨r, 6, none⟩ v6
theorem sev7_size (w : World) (r : Nat) (v0 v1 v2 v3 v4 v5 v6 : Value) : (sev7 w r v0 v1 v2 v3 v4 v5 v6).heap.size = w.heap.size := by
  unfold sev7; rw [size_set, size_set, size_set, size_set, size_set, size_set, size_set]
theorem sev7_other {w : World} {r b : Nat} (v0 v1 v2 v3 v4 v5 v6 : Value) (h : b ≠ r) : (sev7 w r v0 v1 v2 v3 v4 v5 v6).heap[b]? = w.heap[b]? := by
  unfold sev7; rw [blk_other _ h, blk_other _ h, blk_other _ h, blk_other _ h, blk_other _ h, blk_other _ h, blk_other _ h]
theorem sev7_same {w : World} {r : Nat} {c0 c1 c2 c3 c4 c5 c6 : Value} {T : TypeId} (v0 v1 v2 v3 v4 v5 v6 : Value) (h : w.heap[r]? = some (.cells #[c0, c1, c2, c3, c4, c5, c6] T (0, 0))) : (sev7 w r v0 v1 v2 v3 v4 v5 v6).heap[r]? = some (.cells #[v0, v1, v2, v3, v4, v5, v6] T (0, 0)) := by
  unfold sev7; rw [blk_set (blk_set (blk_set (blk_set (blk_set (blk_set (blk_set h _) _) _) _) _) _) _]; rfl
theorem sev7_kept (w : World) (r : Nat) (v0 v1 v2 v3 v4 v5 v6 : Value) : Kept (fun b => b ≠ r) w (sev7 w r v0 v1 v2 v3 v4 v5 v6) := by
  unfold sev7; (exact ((((((kept_set fun c h => h).trans (kept_set fun c h => h)).trans (kept_set fun c h => h)).trans (kept_set fun c h => h)).trans (kept_set fun c h => h)).trans (kept_set fun c h => h)).trans (kept_set fun c h => h))

/-- What the call of write itself has answered, and the box that its proof comes into. -/
structure GW where
  g : Nat
  P : Pf
  k0 : Value
  k1 : Value
  k2 : Value
  k3 : Value
  k4 : Value
  k5 : Value
  k6 : Value
  fits : Bool
  st : Nat
  nd : Nat
def GW.kid (y : GW) : Value := .agg #[y.k0, y.k1, y.k2, y.k3, y.k4, y.k5, y.k6]
def GW.cells (y : GW) (l15 : Bool) : Array Value := cond l15 #[y.k0, y.k1, y.k2, y.k3, y.k4, y.k5, y.k6] #[.string ⟨#[]⟩, .int .i64 0, .string ⟨#[]⟩, .slice none 0 0, .slice none 0 0, .slice none 0 0, .slice none 0 0]
def GW.none0 : GW := ⟨0, .mk ⟨#[]⟩ (.mk 0 ⟨#[]⟩ []) [] [] [], .bool false, .bool false, .bool false, .bool false, .bool false, .bool false, .bool false, false, 0, 0⟩
structure StW (x : Fx) (W : World) (bz : Nat) (lean : Bool) (post : GW → Prop) (l10 l14 l15 : Bool) (y : GW) (w : World) : Prop where
  below : l10 = false → Below W.heap.size W w
  kept : Kept (fun b => b ≠ bz) W w
  box : l14 = true → W.heap.size ≤ y.g ∧ w.heap[y.g]? = some (.cells (y.cells l15) 32 (0, 0))
  done : l10 = true → WrSt x w bz lean y.st y.nd ∧ PRp (fun b => W.heap.size ≤ b ∧ (l14 = true → b ≠ y.g)) w y.P y.kid ∧ post y
theorem StW.start {x : Fx} {W w : World} {bz : Nat} {lean : Bool} {post : GW → Prop} (y : GW) (h : Below W.heap.size W w) : StW x W bz lean post false false false y w :=
  ⟨fun _ => h, kept_of_below h fun _ h _ => h, fun h => (by cases h), fun h => (by cases h)⟩
theorem StW.up {x : Fx} {W w w' : World} {bz : Nat} {lean : Bool} {post : GW → Prop} {l10 l14 l15 : Bool} {y : GW} (h : StW x W bz lean post l10 l14 l15 y w) (e10 : l10 = false) (hb : Below w.heap.size w w') : StW x W bz lean post l10 l14 l15 y w' := by
  subst e10; (exact ⟨fun e => below_join (h.below e) hb, kept_far h.kept (kept_of_below (ok := fun b => b ≠ bz) hb fun _ h _ => h) fun _ _ h => h, fun e => ⟨(h.box e).1, below_keep hb (h.box e).2⟩, fun e => (by cases e)⟩)
theorem StW.alloc {x : Fx} {W w : World} {bz : Nat} {lean : Bool} {post : GW → Prop} {l10 l14 l15 : Bool} {y : GW} (hpost : ∀ y y' : GW, y.P = y'.P → y.fits = y'.fits → y.st = y'.st → y.nd = y'.nd → post y → post y') (h : StW x W bz lean post l10 l14 l15 y w) (e14 : l14 = false) (e15 : l15 = false) :
    StW x W bz lean post l10 true l15 { y with g := w.heap.size } (w.alloc (.cells #[.string ⟨#[]⟩, .int .i64 0, .string ⟨#[]⟩, .slice none 0 0, .slice none 0 0, .slice none 0 0, .slice none 0 0] 32 (0, 0))) := by
  subst e14 e15; have hb := below_more (Below.refl w.heap.size w) (.cells #[.string ⟨#[]⟩, .int .i64 0, .string ⟨#[]⟩, .slice none 0 0, .slice none 0 0, .slice none 0 0, .slice none 0 0] 32 (0, 0)); (refine ⟨fun e => below_join (h.below e) hb, kept_far h.kept (kept_of_below (ok := fun b => b ≠ bz) hb fun _ h _ => h) fun _ _ h => h, fun _ => ⟨h.kept.size, blk_new w _⟩, fun e => ?_⟩); obtain ⟨h1, h2, h3⟩ := h.done e; (exact ⟨h1.up hb, PRp.move h2 fun b hl hp => ⟨hb.block b hl, hp.1, fun _ e => by simp only at e; omega⟩, hpost y _ rfl rfl rfl rfl h3⟩)
theorem StW.call {x : Fx} {W w w' : World} {bz : Nat} {lean : Bool} {post : GW → Prop} {l10 l14 l15 : Bool} {y : GW} (h : StW x W bz lean post l10 l14 l15 y w) (e15 : l15 = false) {P : Pf} {k0 k1 k2 k3 k4 k5 k6 : Value} {fits : Bool} {st nd : Nat} (hz : bz < W.heap.size) (hP : PRp (w.heap.size ≤ ·) w' P (.agg #[k0, k1, k2, k3, k4, k5, k6])) (hw : WrSt x w' bz lean st nd) (hk : Kept (fun b => b ≠ bz) w w') (hp : post ⟨y.g, P, k0, k1, k2, k3, k4, k5, k6, fits, st, nd⟩) :
    StW x W bz lean post true l14 l15 ⟨y.g, P, k0, k1, k2, k3, k4, k5, k6, fits, st, nd⟩ w' := by
  subst e15; have hs := h.kept.size; (refine ⟨fun e => (by cases e), kept_far h.kept hk fun _ _ h => h, fun e => ?_, fun _ => ⟨hw, PRp.move hP fun b _ hb => ⟨rfl, by omega, fun e1 e2 => ?_⟩, hp⟩⟩)
  · obtain ⟨h1, h2⟩ := h.box e
    (refine ⟨h1, (hk.block y.g (lt_of_block h2) (fun e => by rw [e] at h1; omega)).trans ?_⟩); exact h2
  · have := lt_of_block (h.box e1).2
    simp only at e2; omega
theorem StW.store {x : Fx} {W w : World} {bz : Nat} {lean : Bool} {post : GW → Prop} {l10 l14 l15 : Bool} {y : GW} (h : StW x W bz lean post l10 l14 l15 y w) (e10 : l10 = true) (e14 : l14 = true) (hz : bz < W.heap.size) (hK : ∀ b, x.K b → b < W.heap.size) (e15 : l15 = false) : StW x W bz lean post l10 l14 true y (sev7 w y.g y.k0 y.k1 y.k2 y.k3 y.k4 y.k5 y.k6) := by
  subst e10 e14 e15; obtain ⟨h1, h2⟩ := h.box rfl; obtain ⟨h3, h4, h5⟩ := h.done rfl; (refine ⟨fun e => (by cases e), kept_far h.kept (sev7_kept w y.g y.k0 y.k1 y.k2 y.k3 y.k4 y.k5 y.k6) fun b hb _ e => by omega, fun _ => ⟨h1, ?_⟩, fun _ => ⟨h3.next (fun b hb hk => sev7_other _ _ _ _ _ _ _ ?_) (by rw [sev7_size]; exact Nat.le_refl _), PRp.move h4 fun b hb hp => ⟨sev7_other _ _ _ _ _ _ _ (hp.2 rfl), hp⟩, h5⟩⟩)
  · exact sev7_same _ _ _ _ _ _ _ h2
  · rcases hk with hk | hk
    · have := hK b hk
      omega
    · omega
end Go.Proofs.YtalnljnincnbdacGreat
