/- Texts of one proof, one behind the other: Parts5. -/
import Derived.Test.YtmahgfgndfcmpabB19
import Derived.Test.YtmahgfgndfcmpabB16
import Derived.Test.YtmahgfgndfcmpabB14
import Derived.Deep.DeepCutAuto
/- Walks: FormulaParts, its two copies. -/
namespace Go.Proofs.Ytmahgfgndfcmpab
open Go.RowKit

/-- What lies in memory behind the two copies. -/
def Pw (w : World) (O0 O1 : Obj) (k : Int) (n : ByteArray) (ks : List Fm) (kg : Int) (ng : ByteArray) (ksg : List Fm) (b7 b8 : Nat) (sx : Option Addr) (cx : Nat) (sy : Option Addr) (cy : Nat) (wc : World) : Prop :=
  b7 ≠ b8 ∧ w.heap.size + 2 ≤ b7 ∧ w.heap.size + 2 ≤ b8 ∧ Below w.heap.size w wc ∧ wc.heap[w.heap.size]? = some O0 ∧ wc.heap[w.heap.size + 1]? = some O1 ∧ wc.heap[b7]? = some (.cells #[.int .i64 k, .string n, .slice sx ks.length cx] 37 (0, 0)) ∧ wc.heap[b8]? = some (.cells #[.int .i64 kg, .string ng, .slice sy ksg.length cy] 37 (0, 0)) ∧ Rep wc (fun _ => True) (.mk k n ks) (.agg #[.int .i64 k, .string n, .slice sx ks.length cx]) ∧ Rep wc (fun _ => True) (.mk kg ng ksg) (.agg #[.int .i64 kg, .string ng, .slice sy ksg.length cy])

section
variable {w w6 : World} {O0 O1 : Obj} {k kg : Int} {n ng : ByteArray} {ks ksg : List Fm} {b7 b8 : Nat} {sx sy : Option Addr} {cx cy : Nat}

theorem pw_mk {wF : World} (hne : b7 ≠ b8) (h7 : w.heap.size + 2 ≤ b7) (h8 : w.heap.size + 2 ≤ b8) (hz : w.heap.size + 2 ≤ w6.heap.size) (p0 : w6.heap[w.heap.size]? = some O0) (p1 : w6.heap[w.heap.size + 1]? = some O1)
    (X : Rep w6 (fun b => b ≠ b7 ∧ b ≠ b8) (.mk k n ks) (.agg #[.int .i64 k, .string n, .slice sx ks.length cx])) (Y : Rep w6 (fun b => b ≠ b7 ∧ b ≠ b8) (.mk kg ng ksg) (.agg #[.int .i64 kg, .string ng, .slice sy ksg.length cy]))
    (hF : Below w.heap.size w wF) (hk : ∀ b, b < w6.heap.size → b ≠ b7 → b ≠ b8 → wF.heap[b]? = w6.heap[b]?) (c7 : wF.heap[b7]? = some (.cells #[.int .i64 k, .string n, .slice sx ks.length cx] 37 (0, 0))) (c8 : wF.heap[b8]? = some (.cells #[.int .i64 kg, .string ng, .slice sy ksg.length cy] 37 (0, 0))) :
    Pw w O0 O1 k n ks kg ng ksg b7 b8 sx cx sy cy wF :=
  ⟨hne, h7, h8, hF, (hk _ (by omega) (by omega) (by omega)).trans p0, (hk _ (by omega) (by omega) (by omega)).trans p1, c7, c8, X.move fun b hb hx => ⟨hk b hb hx.1 hx.2, trivial⟩, Y.move fun b hb hx => ⟨hk b hb hx.1 hx.2, trivial⟩⟩

theorem set3_far {b x : Nat} (hb : x ≠ b) (u0 u1 u2 : Value) : (((w6.setCell ⟨b, 0, none⟩ u0).setCell ⟨b, 1, none⟩ u1).setCell ⟨b, 2, none⟩ u2).heap[x]? = w6.heap[x]? := by
  (rw [Below.heap_setCell _ _ _ _ (by simpa using hb), Below.heap_setCell _ _ _ _ (by simpa using hb), Below.heap_setCell _ _ _ _ (by simpa using hb)])
theorem set3_below {b : Nat} (hb : w.heap.size ≤ b) (B : Below w.heap.size w w6) (u0 u1 u2 : Value) : Below w.heap.size w (((w6.setCell ⟨b, 0, none⟩ u0).setCell ⟨b, 1, none⟩ u1).setCell ⟨b, 2, none⟩ u2) := ((B.setCell (by simpa using hb) _).setCell (by simpa using hb) _).setCell (by simpa using hb) _
theorem set3_size {b : Nat} (u0 u1 u2 : Value) : (((w6.setCell ⟨b, 0, none⟩ u0).setCell ⟨b, 1, none⟩ u1).setCell ⟨b, 2, none⟩ u2).heap.size = w6.heap.size := by simp [World.setCell]

variable (hz : w.heap.size + 2 ≤ w6.heap.size) (B : Below w.heap.size w w6) (p0 : w6.heap[w.heap.size]? = some O0) (p1 : w6.heap[w.heap.size + 1]? = some O1)

include hz B p0 p1

theorem pw_nn1 (X : Rep w6 (fun b => b ≠ w6.heap.size ∧ b ≠ w6.heap.size + 1) (.mk k n ks) (.agg #[.int .i64 k, .string n, .slice sx ks.length cx])) (Y : Rep w6 (fun b => b ≠ w6.heap.size ∧ b ≠ w6.heap.size + 1) (.mk kg ng ksg) (.agg #[.int .i64 kg, .string ng, .slice sy ksg.length cy])) :
    Pw w O0 O1 k n ks kg ng ksg w6.heap.size (w6.heap.size + 1) sx cx sy cy ((w6.alloc (.cells #[.int .i64 k, .string n, .slice sx ks.length cx] 37 (0, 0))).alloc (.cells #[.int .i64 kg, .string ng, .slice sy ksg.length cy] 37 (0, 0))) :=
  pw_mk (by omega) hz (by omega) hz p0 p1 X Y (below_more (below_more B _) _) (fun b hb _ _ => by rw [Below.heap_alloc _ _ _ (by simp; omega), Below.heap_alloc _ _ _ hb]) (alloc_keep (blk_new _ _) _) (blk_new2 _ _ _)
theorem pw_nn2 (X : Rep w6 (fun b => b ≠ w6.heap.size + 1 ∧ b ≠ w6.heap.size) (.mk k n ks) (.agg #[.int .i64 k, .string n, .slice sx ks.length cx])) (Y : Rep w6 (fun b => b ≠ w6.heap.size + 1 ∧ b ≠ w6.heap.size) (.mk kg ng ksg) (.agg #[.int .i64 kg, .string ng, .slice sy ksg.length cy])) :
    Pw w O0 O1 k n ks kg ng ksg (w6.heap.size + 1) w6.heap.size sx cx sy cy ((w6.alloc (.cells #[.int .i64 kg, .string ng, .slice sy ksg.length cy] 37 (0, 0))).alloc (.cells #[.int .i64 k, .string n, .slice sx ks.length cx] 37 (0, 0))) :=
  pw_mk (by omega) (by omega) hz hz p0 p1 X Y (below_more (below_more B _) _) (fun b hb _ _ => by rw [Below.heap_alloc _ _ _ (by simp; omega), Below.heap_alloc _ _ _ hb]) (blk_new2 _ _ _) (alloc_keep (blk_new _ _) _)
theorem pw_on (h7 : w.heap.size + 2 ≤ b7) (n7 : w6.heap[b7]? = some (.cells #[.int .i64 0, .string ⟨#[]⟩, .slice none 0 0] 37 (0, 0))) (X : Rep w6 (fun b => b ≠ b7 ∧ b ≠ w6.heap.size) (.mk k n ks) (.agg #[.int .i64 k, .string n, .slice sx ks.length cx])) (Y : Rep w6 (fun b => b ≠ b7 ∧ b ≠ w6.heap.size) (.mk kg ng ksg) (.agg #[.int .i64 kg, .string ng, .slice sy ksg.length cy])) :
    Pw w O0 O1 k n ks kg ng ksg b7 w6.heap.size sx cx sy cy ((((w6.setCell ⟨b7, 0, none⟩ (.int .i64 k)).setCell ⟨b7, 1, none⟩ (.string n)).setCell ⟨b7, 2, none⟩ (.slice sx ks.length cx)).alloc (.cells #[.int .i64 kg, .string ng, .slice sy ksg.length cy] 37 (0, 0))) := by
  have z := lt_of_block n7; (refine pw_mk (by omega) h7 (by omega) hz p0 p1 X Y (below_more (set3_below (by omega) B _ _ _) _) (fun b hb h1 h2 => by rw [Below.heap_alloc _ _ _ (by rw [set3_size]; exact hb), set3_far h1]) (alloc_keep (set3 n7 _ _ _) _) ?_); have := blk_new (((w6.setCell ⟨b7, 0, none⟩ (.int .i64 k)).setCell ⟨b7, 1, none⟩ (.string n)).setCell ⟨b7, 2, none⟩ (.slice sx ks.length cx)) (.cells #[.int .i64 kg, .string ng, .slice sy ksg.length cy] 37 (0, 0))
  rwa [set3_size] at this
theorem pw_no (h8 : w.heap.size + 2 ≤ b8) (n8 : w6.heap[b8]? = some (.cells #[.int .i64 0, .string ⟨#[]⟩, .slice none 0 0] 37 (0, 0))) (X : Rep w6 (fun b => b ≠ w6.heap.size ∧ b ≠ b8) (.mk k n ks) (.agg #[.int .i64 k, .string n, .slice sx ks.length cx])) (Y : Rep w6 (fun b => b ≠ w6.heap.size ∧ b ≠ b8) (.mk kg ng ksg) (.agg #[.int .i64 kg, .string ng, .slice sy ksg.length cy])) :
    Pw w O0 O1 k n ks kg ng ksg w6.heap.size b8 sx cx sy cy ((((w6.setCell ⟨b8, 0, none⟩ (.int .i64 kg)).setCell ⟨b8, 1, none⟩ (.string ng)).setCell ⟨b8, 2, none⟩ (.slice sy ksg.length cy)).alloc (.cells #[.int .i64 k, .string n, .slice sx ks.length cx] 37 (0, 0))) := by
  have z := lt_of_block n8; (refine pw_mk (by omega) (by omega) h8 hz p0 p1 X Y (below_more (set3_below (by omega) B _ _ _) _) (fun b hb h1 h2 => by rw [Below.heap_alloc _ _ _ (by rw [set3_size]; exact hb), set3_far h2]) ?_ (alloc_keep (set3 n8 _ _ _) _)); have := blk_new (((w6.setCell ⟨b8, 0, none⟩ (.int .i64 kg)).setCell ⟨b8, 1, none⟩ (.string ng)).setCell ⟨b8, 2, none⟩ (.slice sy ksg.length cy)) (.cells #[.int .i64 k, .string n, .slice sx ks.length cx] 37 (0, 0))
  rwa [set3_size] at this
theorem pw_oo (hne : b7 ≠ b8) (h7 : w.heap.size + 2 ≤ b7) (n7 : w6.heap[b7]? = some (.cells #[.int .i64 0, .string ⟨#[]⟩, .slice none 0 0] 37 (0, 0))) (h8 : w.heap.size + 2 ≤ b8) (n8 : w6.heap[b8]? = some (.cells #[.int .i64 0, .string ⟨#[]⟩, .slice none 0 0] 37 (0, 0))) (X : Rep w6 (fun b => b ≠ b7 ∧ b ≠ b8) (.mk k n ks) (.agg #[.int .i64 k, .string n, .slice sx ks.length cx])) (Y : Rep w6 (fun b => b ≠ b7 ∧ b ≠ b8) (.mk kg ng ksg) (.agg #[.int .i64 kg, .string ng, .slice sy ksg.length cy])) :
    Pw w O0 O1 k n ks kg ng ksg b7 b8 sx cx sy cy ((((((w6.setCell ⟨b7, 0, none⟩ (.int .i64 k)).setCell ⟨b7, 1, none⟩ (.string n)).setCell ⟨b7, 2, none⟩ (.slice sx ks.length cx)).setCell ⟨b8, 0, none⟩ (.int .i64 kg)).setCell ⟨b8, 1, none⟩ (.string ng)).setCell ⟨b8, 2, none⟩ (.slice sy ksg.length cy)) := by
  (refine pw_mk hne h7 h8 hz p0 p1 X Y (set3_below (by omega) (set3_below (by omega) B _ _ _) _ _ _) (fun b hb h1 h2 => by rw [set3_far h2, set3_far h1]) ?_ ?_)
  · rw [set3_far hne]; exact set3 n7 _ _ _
  · refine set3 (x0 := .int .i64 0) (x1 := .string ⟨#[]⟩) (x2 := .slice none 0 0) ?_ _ _ _
    rw [set3_far (Ne.symm hne)]; exact n8
end

/-- A fault is laid into its block. -/
theorem flt_set {w w6 : World} {R : Nat} {x0 x1 : Value} (hR : w.heap.size ≤ R) (B : Below w.heap.size w w6) (q : w6.heap[R]? = some (.cells #[x0, x1] 25 (0, 0))) (c a : Int) :
    ((w6.setCell ⟨R, 0, none⟩ (.int .i64 c)).setCell ⟨R, 1, none⟩ (.int .i64 a)).heap[R]? = some (.cells #[.int .i64 c, .int .i64 a] 25 (0, 0)) ∧ Below w.heap.size w ((w6.setCell ⟨R, 0, none⟩ (.int .i64 c)).setCell ⟨R, 1, none⟩ (.int .i64 a)) ∧ ∀ b, b ≠ R → ((w6.setCell ⟨R, 0, none⟩ (.int .i64 c)).setCell ⟨R, 1, none⟩ (.int .i64 a)).heap[b]? = w6.heap[b]? :=
  ⟨set2 q _ _, (B.setCell (by simpa using hR) _).setCell (by simpa using hR) _, fun b hb => by rw [Below.heap_setCell _ _ _ _ (by simpa using hb), Below.heap_setCell _ _ _ _ (by simpa using hb)]⟩

end Go.Proofs.Ytmahgfgndfcmpab
