/- Texts of one proof, one behind the other: Parts5. -/
import Derived.Test.YtknngeojhiejnaaB17
import Derived.Deep.DeepCutAuto
/- Walks: FormulaParts, its two copies. -/
namespace Go.Proofs.Ytknngeojhiejnaa
open Go.RowKit

/-- What lies in memory behind the two copies. -/
def Pw (w : World) (O0 O1 : Obj) (k : Int) (n : ByteArray) (ks : List Fm) (kg : Int) (ng : ByteArray) (ksg : List Fm) (b7 b8 : Nat) (sx : Option Addr) (cx : Nat) (sy : Option Addr) (cy : Nat) (wc : World) : Prop :=
  b7 ≠ b8 ∧ w.heap.size + 2 ≤ b7 ∧ w.heap.size + 2 ≤ b8 ∧ Below w.heap.size w wc ∧ wc.heap[w.heap.size]? = some O0 ∧ wc.heap[w.heap.size + 1]? = some O1 ∧ wc.heap[b7]? = some (.cells #[.int .i64 k, .string n, .slice sx ks.length cx] 24 (0, 0)) ∧ wc.heap[b8]? = some (.cells #[.int .i64 kg, .string ng, .slice sy ksg.length cy] 24 (0, 0)) ∧ Rep wc (fun _ => True) (.mk k n ks) (.agg #[.int .i64 k, .string n, .slice sx ks.length cx]) ∧ Rep wc (fun _ => True) (.mk kg ng ksg) (.agg #[.int .i64 kg, .string ng, .slice sy ksg.length cy])

section
variable {w w6 : World} {O0 O1 : Obj} {k kg : Int} {n ng : ByteArray} {ks ksg : List Fm} {b7 b8 : Nat} {sx sy : Option Addr} {cx cy : Nat}

theorem pw_mk {wF : World} (hne : b7 ≠ b8) (h7 : w.heap.size + 2 ≤ b7) (h8 : w.heap.size + 2 ≤ b8) (hz : w.heap.size + 2 ≤ w6.heap.size) (p0 : w6.heap[w.heap.size]? = some O0) (p1 : w6.heap[w.heap.size + 1]? = some O1)
    (X : Rep w6 (fun b => b ≠ b7 ∧ b ≠ b8) (.mk k n ks) (.agg #[.int .i64 k, .string n, .slice sx ks.length cx])) (Y : Rep w6 (fun b => b ≠ b7 ∧ b ≠ b8) (.mk kg ng ksg) (.agg #[.int .i64 kg, .string ng, .slice sy ksg.length cy]))
    (hF : Below w.heap.size w wF) (hk : ∀ b, b < w6.heap.size → b ≠ b7 → b ≠ b8 → wF.heap[b]? = w6.heap[b]?) (c7 : wF.heap[b7]? = some (.cells #[.int .i64 k, .string n, .slice sx ks.length cx] 24 (0, 0))) (c8 : wF.heap[b8]? = some (.cells #[.int .i64 kg, .string ng, .slice sy ksg.length cy] 24 (0, 0))) :
    Pw w O0 O1 k n ks kg ng ksg b7 b8 sx cx sy cy wF :=
  ⟨hne, h7, h8, hF, (hk _ (by omega) (by omega) (by omega)).trans p0, (hk _ (by omega) (by omega) (by omega)).trans p1, c7, c8, X.move fun b hb hx => ⟨hk b hb hx.1 hx.2, trivial⟩, Y.move fun b hb hx => ⟨hk b hb hx.1 hx.2, trivial⟩⟩

theorem set3_far {b x : Nat} (hb : x ≠ b) (u0 u1 u2 : Value) : (((w6.setCell ⟨b, 0, none⟩ u0).setCell ⟨b, 1, none⟩ u1).setCell ⟨b, 2, none⟩ u2).heap[x]? = w6.heap[x]? := by
  rw [Below.heap_setCell _ _ _ _ (by simpa using hb), Below.heap_setCell _ _ _ _ (by simpa using hb), Below.heap_setCell _ _ _ _ (by simpa using hb)]
theorem set3_below {b : Nat} (hb : w.heap.size ≤ b) (B : Below w.heap.size w w6) (u0 u1 u2 : Value) : Below w.heap.size w (((w6.setCell ⟨b, 0, none⟩ u0).setCell ⟨b, 1, none⟩ u1).setCell ⟨b, 2, none⟩ u2) := ((B.setCell (by simpa using hb) _).setCell (by simpa using hb) _).setCell (by simpa using hb) _
theorem set3_size {b : Nat} (u0 u1 u2 : Value) : (((w6.setCell ⟨b, 0, none⟩ u0).setCell ⟨b, 1, none⟩ u1).setCell ⟨b, 2, none⟩ u2).heap.size = w6.heap.size := by simp [World.setCell]

variable (hz : w.heap.size + 2 ≤ w6.heap.size) (B : Below w.heap.size w w6) (p0 : w6.heap[w.heap.size]? = some O0) (p1 : w6.heap[w.heap.size + 1]? = some O1)

include hz B p0 p1

theorem pw_nn1 (X : Rep w6 (fun b => b ≠ w6.heap.size ∧ b ≠ w6.heap.size + 1) (.mk k n ks) (.agg #[.int .i64 k, .string n, .slice sx ks.length cx])) (Y : Rep w6 (fun b => b ≠ w6.heap.size ∧ b ≠ w6.heap.size + 1) (.mk kg ng ksg) (.agg #[.int .i64 kg, .string ng, .slice sy ksg.length cy])) :
    Pw w O0 O1 k n ks kg ng ksg w6.heap.size (w6.heap.size + 1) sx cx sy cy ((w6.alloc (.cells #[.int .i64 k, .string n, .slice sx ks.length cx] 24 (0, 0))).alloc (.cells #[.int .i64 kg, .string ng, .slice sy ksg.length cy] 24 (0, 0))) :=
  pw_mk (by omega) hz (by omega) hz p0 p1 X Y (below_more (below_more B _) _) (fun b hb _ _ => by rw [Below.heap_alloc _ _ _ (by simp; omega), Below.heap_alloc _ _ _ hb]) (alloc_keep (blk_new _ _) _) (blk_new2 _ _ _)
theorem pw_nn2 (X : Rep w6 (fun b => b ≠ w6.heap.size + 1 ∧ b ≠ w6.heap.size) (.mk k n ks) (.agg #[.int .i64 k, .string n, .slice sx ks.length cx])) (Y : Rep w6 (fun b => b ≠ w6.heap.size + 1 ∧ b ≠ w6.heap.size) (.mk kg ng ksg) (.agg #[.int .i64 kg, .string ng, .slice sy ksg.length cy])) :
    Pw w O0 O1 k n ks kg ng ksg (w6.heap.size + 1) w6.heap.size sx cx sy cy ((w6.alloc (.cells #[.int .i64 kg, .string ng, .slice sy ksg.length cy] 24 (0, 0))).alloc (.cells #[.int .i64 k, .string n, .slice sx ks.length cx] 24 (0, 0))) :=
  pw_mk (by omega) (by omega) hz hz p0 p1 X Y (below_more (below_more B _) _) (fun b hb _ _ => by rw [Below.heap_alloc _ _ _ (by simp; omega), Below.heap_alloc _ _ _ hb]) (blk_new2 _ _ _) (alloc_keep (blk_new _ _) _)
theorem pw_on (h7 : w.heap.size + 2 ≤ b7) (n7 : w6.heap[b7]? = some (.cells #[.int .i64 0, .string ⟨#[]⟩, .slice none 0 0] 24 (0, 0))) (X : Rep w6 (fun b => b ≠ b7 ∧ b ≠ w6.heap.size) (.mk k n ks) (.agg #[.int .i64 k, .string n, .slice sx ks.length cx])) (Y : Rep w6 (fun b => b ≠ b7 ∧ b ≠ w6.heap.size) (.mk kg ng ksg) (.agg #[.int .i64 kg, .string ng, .slice sy ksg.length cy])) :
    Pw w O0 O1 k n ks kg ng ksg b7 w6.heap.size sx cx sy cy ((((w6.setCell ⟨b7, 0, none⟩ (.int .i64 k)).setCell ⟨b7, 1, none⟩ (.string n)).setCell ⟨b7, 2, none⟩ (.slice sx ks.length cx)).alloc (.cells #[.int .i64 kg, .string ng, .slice sy ksg.length cy] 24 (0, 0))) := by
  have z := lt_of_block n7
  refine pw_mk (by omega) h7 (by omega) hz p0 p1 X Y (below_more (set3_below (by omega) B _ _ _) _) (fun b hb h1 h2 => by rw [Below.heap_alloc _ _ _ (by rw [set3_size]; exact hb), set3_far h1]) (alloc_keep (set3 n7 _ _ _) _) ?_
  have := blk_new (((w6.setCell ⟨b7, 0, none⟩ (.int .i64 k)).setCell ⟨b7, 1, none⟩ (.string n)).setCell ⟨b7, 2, none⟩ (.slice sx ks.length cx)) (.cells #[.int .i64 kg, .string ng, .slice sy ksg.length cy] 24 (0, 0))
  rwa [set3_size] at this
theorem pw_no (h8 : w.heap.size + 2 ≤ b8) (n8 : w6.heap[b8]? = some (.cells #[.int .i64 0, .string ⟨#[]⟩, .slice none 0 0] 24 (0, 0))) (X : Rep w6 (fun b => b ≠ w6.heap.size ∧ b ≠ b8) (.mk k n ks) (.agg #[.int .i64 k, .string n, .slice sx ks.length cx])) (Y : Rep w6 (fun b => b ≠ w6.heap.size ∧ b ≠ b8) (.mk kg ng ksg) (.agg #[.int .i64 kg, .string ng, .slice sy ksg.length cy])) :
    Pw w O0 O1 k n ks kg ng ksg w6.heap.size b8 sx cx sy cy ((((w6.setCell ⟨b8, 0, none⟩ (.int .i64 kg)).setCell ⟨b8, 1, none⟩ (.string ng)).setCell ⟨b8, 2, none⟩ (.slice sy ksg.length cy)).alloc (.cells #[.int .i64 k, .string n, .slice sx ks.length cx] 24 (0, 0))) := by
  have z := lt_of_block n8
  refine pw_mk (by omega) (by omega) h8 hz p0 p1 X Y (below_more (set3_below (by omega) B _ _ _) _) (fun b hb h1 h2 => by rw [Below.heap_alloc _ _ _ (by rw [set3_size]; exact hb), set3_far h2]) ?_ (alloc_keep (set3 n8 _ _ _) _)
  have := blk_new (((w6.setCell ⟨b8, 0, none⟩ (.int .i64 kg)).setCell ⟨b8, 1, none⟩ (.string ng)).setCell ⟨b8, 2, none⟩ (.slice sy ksg.length cy)) (.cells #[.int .i64 k, .string n, .slice sx ks.length cx] 24 (0, 0))
  rwa [set3_size] at this
theorem pw_oo (hne : b7 ≠ b8) (h7 : w.heap.size + 2 ≤ b7) (n7 : w6.heap[b7]? = some (.cells #[.int .i64 0, .string ⟨#[]⟩, .slice none 0 0] 24 (0, 0))) (h8 : w.heap.size + 2 ≤ b8) (n8 : w6.heap[b8]? = some (.cells #[.int .i64 0, .string ⟨#[]⟩, .slice none 0 0] 24 (0, 0))) (X : Rep w6 (fun b => b ≠ b7 ∧ b ≠ b8) (.mk k n ks) (.agg #[.int .i64 k, .string n, .slice sx ks.length cx])) (Y : Rep w6 (fun b => b ≠ b7 ∧ b ≠ b8) (.mk kg ng ksg) (.agg #[.int .i64 kg, .string ng, .slice sy ksg.length cy])) :
    Pw w O0 O1 k n ks kg ng ksg b7 b8 sx cx sy cy ((((((w6.setCell ⟨b7, 0, none⟩ (.int .i64 k)).setCell ⟨b7, 1, none⟩ (.string n)).setCell ⟨b7, 2, none⟩ (.slice sx ks.length cx)).setCell ⟨b8, 0, none⟩ (.int .i64 kg)).setCell ⟨b8, 1, none⟩ (.string ng)).setCell ⟨b8, 2, none⟩ (.slice sy ksg.length cy)) := by
  refine pw_mk hne h7 h8 hz p0 p1 X Y (set3_below (by omega) (set3_below (by omega) B _ _ _) _ _ _) (fun b hb h1 h2 => by rw [set3_far h2, set3_far h1]) ?_ ?_
  · rw [set3_far hne]; exact set3 n7 _ _ _
  · refine set3 (x0 := .int .i64 0) (x1 := .string ⟨#[]⟩) (x2 := .slice none 0 0) ?_ _ _ _
    rw [set3_far (Ne.symm hne)]; exact n8
end

/-- A formula alone in a list. -/
theorem FL.single {w : World} {b : Nat} {f : Fm} {c0 c1 c2 : Value} {T : TypeId} (hb : w.heap[b]? = some (.cells #[c0, c1, c2] T (0, 0))) (hr : Rep w (fun _ => True) f (.agg #[c0, c1, c2])) : FL w (.slice (some ⟨b, 0, none⟩) 1 1) [f] := by
  obtain ⟨g0, g1, g2, -⟩ := blk3 hb
  exact ⟨some ⟨b, 0, none⟩, 1, rfl, by simp, by simp [maxLen], fun _ => ⟨b, 0, rfl, Reps.cons.2 ⟨⟨c0, c1, c2, g0, g1, g2, hr⟩, Reps.nil⟩⟩⟩

theorem putR_split {f g : Fm} {nm : ByteArray} {r : Fm} {c3 a3 : Int} (h : PutR f nm g r c3 a3) (hf : f.code = (0, 0)) :
    (g.code = (0, 0) ∧ isNm nm.data.toList = true ∧ cntW nm g.size (allN f) ≤ 200 ∧ r = putF nm g f ∧ c3 = 0 ∧ a3 = 0) ∨ (∃ c a, c ≠ 0 ∧ g.code = (c, a) ∧ r = .mk 0 e0 [] ∧ c3 = c ∧ a3 = a) ∨ (g.code = (0, 0) ∧ isNm nm.data.toList = false ∧ r = .mk 0 e0 [] ∧ c3 = 8 ∧ a3 = 0) ∨ (g.code = (0, 0) ∧ isNm nm.data.toList = true ∧ 200 < cntW nm g.size (allN f) ∧ r = .mk 0 e0 [] ∧ c3 = 10 ∧ a3 = 0) := by
  cases h with
  | ok h1 h2 h3 h4 => exact Or.inl ⟨h2, h3, h4, rfl, rfl, rfl⟩
  | bad1 c a hc h1 => rw [hf] at h1; exact absurd (Prod.mk.inj h1).1.symm hc
  | bad2 c a hc h1 h2 => exact Or.inr (Or.inl ⟨_, _, hc, h2, rfl, rfl, rfl⟩)
  | bad3 h1 h2 h3 => exact Or.inr (Or.inr (Or.inl ⟨h2, h3, rfl, rfl, rfl⟩))
  | bad4 h1 h2 h3 h4 => exact Or.inr (Or.inr (Or.inr ⟨h2, h3, h4, rfl, rfl, rfl⟩))
theorem Rep.bare {w w' : World} {ok ok' : Nat → Prop} {k : Int} {n : ByteArray} {v : Value} (h : Rep w ok (.mk k n []) v) : Rep w' ok' (.mk k n []) v := by
  obtain ⟨sl, cap, h1, h2, h3, h4, -⟩ := Rep.def.1 h
  exact Rep.def.2 ⟨sl, cap, h1, h2, h3, h4, fun h => absurd rfl h⟩
/-- A fault is laid into its block. -/
theorem flt_set {w w6 : World} {R : Nat} {x0 x1 : Value} (hR : w.heap.size ≤ R) (B : Below w.heap.size w w6) (q : w6.heap[R]? = some (.cells #[x0, x1] 29 (0, 0))) (c a : Int) :
    ((w6.setCell ⟨R, 0, none⟩ (.int .i64 c)).setCell ⟨R, 1, none⟩ (.int .i64 a)).heap[R]? = some (.cells #[.int .i64 c, .int .i64 a] 29 (0, 0)) ∧ Below w.heap.size w ((w6.setCell ⟨R, 0, none⟩ (.int .i64 c)).setCell ⟨R, 1, none⟩ (.int .i64 a)) ∧ ∀ b, b ≠ R → ((w6.setCell ⟨R, 0, none⟩ (.int .i64 c)).setCell ⟨R, 1, none⟩ (.int .i64 a)).heap[b]? = w6.heap[b]? :=
  ⟨set2 q _ _, (B.setCell (by simpa using hR) _).setCell (by simpa using hR) _, fun b hb => by rw [Below.heap_setCell _ _ _ _ (by simpa using hb), Below.heap_setCell _ _ _ _ (by simpa using hb)]⟩

theorem putR_bad {f g : Fm} {nm : ByteArray} {r : Fm} {c3 a3 c a : Int} (h : PutR f nm g r c3 a3) (hc : c ≠ 0) (hf : f.code = (c, a)) : r = .mk 0 e0 [] ∧ c3 = c ∧ a3 = a := by
  have hno : f.code ≠ (0, 0) := fun e => by rw [hf] at e; exact hc (Prod.mk.inj e).1
  cases h with
  | ok h1 => exact absurd h1 hno
  | bad1 c' a' hc' h1 => rw [hf] at h1; obtain ⟨rfl, rfl⟩ := Prod.mk.inj h1; exact ⟨rfl, rfl, rfl⟩
  | bad2 _ _ _ h1 => exact absurd h1 hno
  | bad3 h1 => exact absurd h1 hno
  | bad4 h1 => exact absurd h1 hno

set_option maxRecDepth 30000 in
set_option maxHeartbeats 16000000 in
theorem parts_walk (f g : Fm) (nm : ByteArray) (v u : Value) (w : World) (hrep : Rep w (fun _ => True) f v) (hu : Rep w (fun _ => True) g u) (hnm : nm.size ≤ maxLen)
    (r : Fm) (c3 a3 : Int) (hput : PutR f nm g r c3 a3) (hpc : ∀ v u w, Rep w (fun _ => True) f v → Rep w (fun _ => True) g u → Calls Try.prog 22 #[v, .string nm, u] w fun e w' => ∃ x, e = .returned (.tuple #[x, .agg #[.int .i64 c3, .int .i64 a3]]) ∧ Rep w' (w.heap.size ≤ ·) r x ∧ Below w.heap.size w w') :
    Calls Try.prog 5 #[v, u, .string nm] w fun e w' => e = .returned (.bool true) ∧ Below w.heap.size w w' := by
  have hva := fun v w h => vast2_any f v w h
  have hvg := fun v w h => vast2_any g v w h
  have hof := fun v w hs h => own_any f v w hs h
  have hog := fun v w hs h => own_any g v w hs h
  have hsf := fun v u w h1 h2 => same_self f v u w h1 h2
  have hsg := fun v u w h1 h2 => same_self g v u w h1 h2
  have hrf := fun v w h => rfault_any f v w h
  have hrg := fun v w h => rfault_any g v w h
  have hnb := fun c a (hc : c ≠ 0) (hf : f.code = (c, a)) v w h => names_bad f v w h c a hc hf
  have hpb := fun c a (hc : c ≠ 0) (hf : f.code = (c, a)) v w h => parts_bad f v w h c a hc hf
  have hno := fun s (hs : chk f 0 = .ok s) v w h => names_ok f v w h s hs
  have hpo := fun s (hs : chk f 0 = .ok s) v w h => parts_ok f v w h s hs
  have hni := fun s (hs : chk f 0 = .ok s) v w h => namesIn_any f (chk_size hs) v w h
  have hpi := fun s (hs : chk f 0 = .ok s) v w h => partsIn_any f (chk_size hs) v w h
  have hwi := fun s (hs : chk f 0 = .ok s) v u w h1 h2 => with_any f g nm v u w (fine_of_chk f 0 s hs) h1 h2
  have hwk := fun v w h => walk_any (putF nm g f) v 201 w (by omega) h
  have hwl : ∀ s, chk f 0 = .ok s → (walkL (putF nm g f) 201).length = min 202 (cntW nm g.size (allN f)) := fun s hs => by
    rw [walkL_take, List.length_take, allN_len, size_put nm g f.size f (Nat.le_refl _) (fine_of_chk f 0 s hs)]
  have hsr := fun v u w h1 h2 => same_self (putF nm g f) v u w h1 h2
  have hcz : (∃ c a, c ≠ 0 ∧ f.code = (c, a)) ∨ (f.code = (0, 0) ∧ ∃ s, chk f 0 = .ok s) := by
    by_cases h : f.code.1 = 0
    · exact Or.inr ⟨code_zero h, code_chk (code_zero h)⟩
    · exact Or.inl ⟨f.code.1, f.code.2, h, rfl⟩
  obtain ⟨k, n, ks⟩ := f
  obtain ⟨kg, ng, ksg⟩ := g
  obtain ⟨sl, cap, rfl⟩ := slice_shape hrep
  obtain ⟨slg, capg, rfl⟩ := slice_shape hu
  have H1 : Hid (∀ v w, _ → Calls Try.prog 10 _ w _) := hva
  have H2 : Hid (∀ v w, _ → Calls Try.prog 10 _ w _) := hvg
  have H3 : Hid (∀ v w, _ → _ → Calls Try.prog 11 _ w _) := hof
  have H4 : Hid (∀ v w, _ → _ → Calls Try.prog 11 _ w _) := hog
  have HSf : Hid (∀ v u w, Rep w (fun _ => True) (.mk k n ks) v → Rep w (fun _ => True) (.mk k n ks) u → Calls Try.prog 15 #[v, u] w _) := hsf
  have HSg : Hid (∀ v u w, Rep w (fun _ => True) (.mk kg ng ksg) v → Rep w (fun _ => True) (.mk kg ng ksg) u → Calls Try.prog 15 #[v, u] w _) := hsg
  have HRf : Hid (∀ v w, Rep w (fun _ => True) (.mk k n ks) v → Calls Try.prog 14 #[v] w _) := hrf
  have HRg : Hid (∀ v w, Rep w (fun _ => True) (.mk kg ng ksg) v → Calls Try.prog 14 #[v] w _) := hrg
  have HPu : Hid (∀ v u w, Rep w (fun _ => True) (.mk k n ks) v → Rep w (fun _ => True) (.mk kg ng ksg) u → Calls Try.prog 22 #[v, .string nm, u] w _) := hpc
  have HPR : Hid (PutR (.mk k n ks) nm (.mk kg ng ksg) r c3 a3) := hput
  have HCZ : Hid ((∃ c a, c ≠ 0 ∧ (Fm.mk k n ks).code = (c, a)) ∨ ((Fm.mk k n ks).code = (0, 0) ∧ ∃ s, chk (Fm.mk k n ks) 0 = .ok s)) := hcz
  have HALL : Hid ((∀ c a, c ≠ 0 → (Fm.mk k n ks).code = (c, a) → (∀ v w, Rep w (fun _ => True) (.mk k n ks) v → Calls Try.prog 20 #[v] w fun e w' => e = .returned (.tuple #[.slice none 0 0, .agg #[.int .i64 c, .int .i64 a]]) ∧ Below w.heap.size w w') ∧ (∀ v w, Rep w (fun _ => True) (.mk k n ks) v → Calls Try.prog 21 #[v] w fun e w' => e = .returned (.tuple #[.slice none 0 0, .agg #[.int .i64 c, .int .i64 a]]) ∧ Below w.heap.size w w'))
      ∧ (∀ s, chk (Fm.mk k n ks) 0 = .ok s → (∀ v w, Rep w (fun _ => True) (.mk k n ks) v → Calls Try.prog 20 #[v] w fun e w' => ∃ x, e = .returned (.tuple #[x, .agg #[.int .i64 0, .int .i64 0]]) ∧ TL w' x (nmsU (.mk k n ks)) ∧ Below w.heap.size w w') ∧ (∀ v w, Rep w (fun _ => True) (.mk k n ks) v → Calls Try.prog 21 #[v] w fun e w' => ∃ x, e = .returned (.tuple #[x, .agg #[.int .i64 0, .int .i64 0]]) ∧ FL w' x (partsL [] (allN (.mk k n ks))) ∧ Below w.heap.size w w')
        ∧ (∀ v w, FL w v [.mk k n ks] → Calls Try.prog 24 #[v] w fun e w' => ∃ x, e = .returned x ∧ TL w' x (nmsU (.mk k n ks)) ∧ Below w.heap.size w w') ∧ (∀ v w, FL w v [.mk k n ks] → Calls Try.prog 26 #[v] w fun e w' => ∃ x, e = .returned x ∧ FL w' x (partsL [] (allN (.mk k n ks))) ∧ Below w.heap.size w w')
        ∧ (∀ v u w, Rep w (fun _ => True) (.mk k n ks) v → Rep w (fun _ => True) (.mk kg ng ksg) u → Calls Try.prog 29 #[v, .string nm, u] w fun e w' => ∃ x, e = .returned x ∧ Rep w' (fun _ => True) (putF nm (.mk kg ng ksg) (.mk k n ks)) x ∧ Below w.heap.size w w')
        ∧ (walkL (putF nm (.mk kg ng ksg) (.mk k n ks)) 201).length = min 202 (cntW nm (Fm.mk kg ng ksg).size (allN (.mk k n ks))))
      ∧ (∀ v w, Rep w (fun _ => True) (putF nm (.mk kg ng ksg) (.mk k n ks)) v → Calls Try.prog 30 #[v, .int .i64 201] w fun e w' => ∃ u, e = .returned u ∧ LO w.heap.size w.heap.size w' u (walkL (putF nm (.mk kg ng ksg) (.mk k n ks)) 201) ∧ Below w.heap.size w w')
      ∧ (∀ v u w, Rep w (fun _ => True) (putF nm (.mk kg ng ksg) (.mk k n ks)) v → Rep w (fun _ => True) (putF nm (.mk kg ng ksg) (.mk k n ks)) u → Calls Try.prog 15 #[v, u] w fun e w' => e = .returned (.bool true) ∧ Below w.heap.size w w')) := ⟨fun c a hc hf => ⟨hnb c a hc hf, hpb c a hc hf⟩, fun s hs => ⟨hno s hs, hpo s hs, hni s hs, hpi s hs, hwi s hs, hwl s hs⟩, hwk, hsr⟩
  clear hva hvg hof hog hsf hsg hrf hrg hpc hput hcz hnb hpb hno hpo hni hpi hwi hwk hwl hsr
  go_enter Try.func5, Try.ntmps5
  go_wp2_with (first
    | (go_at_call 9
       refine (begun_any _).mono ?_
       rintro e w1 ⟨rfl, hb1⟩
       have q0 := below_keep hb1 (alloc_keep (blk_new w _) _)
       have q1 := below_keep hb1 (blk_new (w.alloc _) _)
       rw [show (w.alloc _).heap.size = w.heap.size + 1 by simp] at q1
       have B1 := below_join (below_more (below_more (Below.refl _ w) _) _) hb1
       have R1 := hrep.up B1
       have U1 := hu.up B1
       have z1 := hb1.size
       obtain ⟨a0, a1', a2, -⟩ := blk3 q0)
    | (go_at_call 10
       have V2 := W2.out
       refine (H2.out _ _ U2).mono ?_
       rintro e w3 ⟨⟨b2, rfl, hs2⟩, hb3⟩
       have HS2 : Hid (b2 = false → Slim (.mk kg ng ksg)) := hs2
       clear hs2
       have B3 := below_join B2 hb3
       have s0 := below_keep hb3 r0
       have s1 := below_keep hb3 r1
       have R3 := R2.up hb3
       have U3 := U2.up hb3
       have z3 := hb3.size
       clear a0 a1' a2 d0 d1 d2
       cases b2)
    | (go_at_call 10
       refine (H1.out _ _ R1).mono ?_
       rintro e w2 ⟨⟨b1, rfl, hs1⟩, hb2⟩
       have HS1 : Hid (b1 = false → Slim (.mk k n ks)) := hs1
       clear hs1
       have B2 := below_join B1 hb2
       have r0 := below_keep hb2 q0
       have r1 := below_keep hb2 q1
       have R2 := R1.up hb2
       have U2 := U1.up hb2
       have z2 := hb2.size
       have W2 : Hid True := trivial
       clear a0 a1' a2
       obtain ⟨a0, a1', a2, -⟩ := blk3 r0
       obtain ⟨d0, d1, d2, -⟩ := blk3 r1
       cases b1)
    | fail)
  · have hs3 : w.heap.size + 2 ≤ w3.heap.size := by simp at z1; omega
    obtain ⟨a0, a1', a2, -⟩ := blk3 s0
    obtain ⟨d0, d1, d2, -⟩ := blk3 s1
    have y0 := lt_of_block s0
    have y1 := lt_of_block s1
    have hrep0 := hrep
    have hu0 := hu
    have HSx : Hid (Slim (.mk k n ks)) := HS1.out (by first | rfl | trivial)
    have HSy : Hid (Slim (.mk kg ng ksg)) := HS2.out (by first | rfl | trivial)
    clear q0 q1 r0 r1 R1 R2 U1 U2 B1 B2 hb1 hb2 hb3 z1 z2 z3 H1 H2 hrep hu W2 HS1 HS2
    go_cut [7, 8] from 25 (fun v7 v8 wc => (∃ (b7 b8 : Nat) (sx : Option Addr) (cx : Nat) (sy : Option Addr) (cy : Nat), v7 = .pointer (some ⟨b7, 0, none⟩) ∧ v8 = .pointer (some ⟨b8, 0, none⟩) ∧ Pw w (.cells #[.int .i64 k, .string n, .slice sl ks.length cap] 24 (0, 0)) (.cells #[.int .i64 kg, .string ng, .slice slg ksg.length capg] 24 (0, 0)) k n ks kg ng ksg b7 b8 sx cx sy cy wc))
    case first =>
      have d3 : ¬ w3.heap.size = w.heap.size := by omega
      have dd3 : ¬ w3.heap.size + 1 = w.heap.size := by omega
      have d3' : ¬ w3.heap.size = w.heap.size + 1 := by omega
      go_region_held3 (fun w' => w'.cell? ⟨w.heap.size, 0, none⟩ = some (.int .i64 k) ∧ w'.cell? ⟨w.heap.size, 1, none⟩ = some (.string n) ∧ w'.cell? ⟨w.heap.size, 2, none⟩ = some (.slice sl ks.length cap) ∧ w'.cell? ⟨w.heap.size + 1, 0, none⟩ = some (.int .i64 kg) ∧ w'.cell? ⟨w.heap.size + 1, 1, none⟩ = some (.string ng) ∧ w'.cell? ⟨w.heap.size + 1, 2, none⟩ = some (.slice slg ksg.length capg)) (go_keep)
        (first
         | (go_at_call 11
            have x5 := HX5.out
            go_loud (
            refine (H4.out _ _ HSy.out (by first | exact U5 | exact U5.more _ | exact (U5.more _).more _)).mono ?_
            rintro e w6 ⟨y, rfl, hrep6, hb6⟩
            obtain ⟨sy, cy, rfl⟩ := slice_shape hrep6
            have z6 := hb6.size
            have hlt6 := hb6.size
            try simp at hlt6
            have t0 := below_keep hb6 (by first | exact p0 | exact alloc_keep p0 _ | exact alloc_keep (alloc_keep p0 _) _)
            have t1 := below_keep hb6 (by first | exact p1 | exact alloc_keep p1 _ | exact alloc_keep (alloc_keep p1 _) _)
            have B6 := below_join (by first | exact B5 | exact below_more B5 _ | exact below_more (below_more B5 _) _) hb6
            have X6 : Hid (Rep w6 _ _ _) := Rep.up' (by first | exact x5 | exact x5.more' _ | exact (x5.more' _).more' _) hb6
            have HY6 : Hid (Rep w6 _ _ _) := hrep6
            try (have n30 := below_keep hb6 m30)
            try (have n30 := below_keep hb6 (alloc_keep m30 (.cells #[.int .i64 0, .string ⟨#[]⟩, .slice none 0 0] 24 (0, 0))))
            try (have n31 := below_keep hb6 m31)
            try (have n50 := below_keep hb6 (blk_new w5 (.cells #[.int .i64 0, .string ⟨#[]⟩, .slice none 0 0] 24 (0, 0))))
            try (have n50 := below_keep hb6 (alloc_keep (blk_new w5 (.cells #[.int .i64 0, .string ⟨#[]⟩, .slice none 0 0] 24 (0, 0))) (.cells #[.int .i64 0, .string ⟨#[]⟩, .slice none 0 0] 24 (0, 0))))
            try (have n51 := below_keep hb6 (blk_new2 w5 (.cells #[.int .i64 0, .string ⟨#[]⟩, .slice none 0 0] 24 (0, 0)) (.cells #[.int .i64 0, .string ⟨#[]⟩, .slice none 0 0] 24 (0, 0))))
            try (have n' := n30
                 obtain ⟨x0, x1, x2, x3, x4, x5'⟩ := blk3 n'
                 have y7 := lt_of_block n'
                 have yy7 := Nat.ne_of_gt y7
                 clear n')
            try (have n' := n31
                 obtain ⟨xa0, xa1, xa2, xa3, xa4, xa5⟩ := blk3 n'
                 have ya7 := lt_of_block n'
                 have yya7 := Nat.ne_of_gt ya7
                 clear n')
            try (have n' := n50
                 obtain ⟨xb0, xb1, xb2, xb3, xb4, xb5⟩ := blk3 n'
                 have yb7 := lt_of_block n'
                 have yyb7 := Nat.ne_of_gt yb7
                 clear n')
            try (have n' := n51
                 obtain ⟨xc0, xc1, xc2, xc3, xc4, xc5⟩ := blk3 n'
                 have yc7 := lt_of_block n'
                 have yyc7 := Nat.ne_of_gt yc7
                 clear n')
            have ne35 : ¬ w3.heap.size = w5.heap.size ∨ True := Or.inr trivial
            try (have n' := n50
                 have n'' := n30
                 have nea : ¬ w3.heap.size = w5.heap.size := by omega
                 have neb : ¬ w5.heap.size = w3.heap.size := by omega
                 clear n' n'')
            clear g0 g1 g2 i0 i1 i2 hrep6
            obtain ⟨g0, g1, g2, -⟩ := blk3 t0
            obtain ⟨i0, i1, i2, -⟩ := blk3 t1
            have d6 : ¬ w6.heap.size = w.heap.size := by have := lt_of_block t0; omega
            have dd6 : ¬ w6.heap.size + 1 = w.heap.size := by have := lt_of_block t0; omega
            have d6' : ¬ w6.heap.size = w.heap.size + 1 := by have := lt_of_block t1; omega))
         | (go_at_call 11
            refine (H3.out _ _ HSx.out (by first | exact R3.up (Below.refl _ _).drew | exact (R3.more _).up (Below.refl _ _).drew | exact ((R3.more _).more _).up (Below.refl _ _).drew)).mono ?_
            rintro e w5 ⟨x, rfl, hrep5, hb5⟩
            obtain ⟨sx, cx, rfl⟩ := slice_shape hrep5
            have z5 := hb5.size
            have hlt5 := hb5.size
            try simp at hlt5
            have p0 := below_keep hb5 (keep_drew (by first | exact s0 | exact alloc_keep s0 _ | exact alloc_keep (alloc_keep s0 _) _))
            have p1 := below_keep hb5 (keep_drew (by first | exact s1 | exact alloc_keep s1 _ | exact alloc_keep (alloc_keep s1 _) _))
            have U5 := Rep.up (by first | exact U3.up (Below.refl _ _).drew | exact (U3.more _).up (Below.refl _ _).drew | exact ((U3.more _).more _).up (Below.refl _ _).drew) hb5
            have B5 := below_join (by first | exact B3.drew | exact (below_more B3 _).drew | exact (below_more (below_more B3 _) _).drew) hb5
            have HX5 : Hid (Rep w5 (fun b => _ ≤ b ∧ b < w5.heap.size) _ _) := hrep5.move fun b hb hm => ⟨rfl, hm, hb⟩
            try (have m30 := below_keep hb5 (keep_drew (blk_new w3 (.cells #[.int .i64 0, .string ⟨#[]⟩, .slice none 0 0] 24 (0, 0)))))
            try (have m30 := below_keep hb5 (keep_drew (alloc_keep (blk_new w3 (.cells #[.int .i64 0, .string ⟨#[]⟩, .slice none 0 0] 24 (0, 0))) (.cells #[.int .i64 0, .string ⟨#[]⟩, .slice none 0 0] 24 (0, 0)))))
            try (have m31 := below_keep hb5 (keep_drew (blk_new2 w3 (.cells #[.int .i64 0, .string ⟨#[]⟩, .slice none 0 0] 24 (0, 0)) (.cells #[.int .i64 0, .string ⟨#[]⟩, .slice none 0 0] 24 (0, 0)))))
            obtain ⟨g0, g1, g2, -⟩ := blk3 p0
            obtain ⟨i0, i1, i2, -⟩ := blk3 p1
            clear hrep5
            have d5 : ¬ w5.heap.size = w.heap.size := by have := lt_of_block p0; omega
            have dd5 : ¬ w5.heap.size + 1 = w.heap.size := by have := lt_of_block p0; omega
            have d5' : ¬ w5.heap.size = w.heap.size + 1 := by have := lt_of_block p1; omega)
         | fail)
      all_goals
        have hs5 : w.heap.size + 2 ≤ w5.heap.size := lt_of_block p1
        have hs6 : w.heap.size + 2 ≤ w6.heap.size := lt_of_block t1
        go_wp2_with fail
        go_meet
        refine ⟨_, _, sx, cx, sy, cy, rfl, rfl, ?_⟩
        first
          | (with_reducible refine pw_nn1 hs6 B6 t0 t1 ?_ ?_
             · exact X6.out.move fun b hb hm => ⟨rfl, by omega, by omega⟩
             · exact HY6.out.move fun b hb hm => ⟨rfl, by omega, by omega⟩)
          | (with_reducible refine pw_nn2 hs6 B6 t0 t1 ?_ ?_
             · exact X6.out.move fun b hb hm => ⟨rfl, by omega, by omega⟩
             · exact HY6.out.move fun b hb hm => ⟨rfl, by omega, by omega⟩)
          | (with_reducible refine pw_oo hs6 B6 t0 t1 ?_ ?_ ?_ ?_ ?_ ?_ ?_
             · omega
             · omega
             · first | exact n30 | exact n31 | exact n50 | exact n51
             · omega
             · first | exact n30 | exact n31 | exact n50 | exact n51
             · exact X6.out.move fun b hb hm => ⟨rfl, by (try simp at hm); omega, by (try simp at hm); omega⟩
             · exact HY6.out.move fun b hb hm => ⟨rfl, by (try simp at hm); omega, by (try simp at hm); omega⟩)
          | (with_reducible refine pw_on hs6 B6 t0 t1 ?_ ?_ ?_ ?_
             · omega
             · first | exact n30 | exact n31 | exact n50 | exact n51
             · exact X6.out.move fun b hb hm => ⟨rfl, by (try simp at hm); omega, by omega⟩
             · exact HY6.out.move fun b hb hm => ⟨rfl, by (try simp at hm); omega, by omega⟩)
          | (with_reducible refine pw_no hs6 B6 t0 t1 ?_ ?_ ?_ ?_
             · omega
             · first | exact n30 | exact n31 | exact n50 | exact n51
             · exact X6.out.move fun b hb hm => ⟨rfl, by omega, by (try simp at hm); omega⟩
             · exact HY6.out.move fun b hb hm => ⟨rfl, by omega, by (try simp at hm); omega⟩)
    case rest =>
      obtain ⟨b7, b8, sx, cx, sy, cy, rfl, rfl, hne, hb7, hb8, BC, v0', v1', v7', v8', RX', RY'⟩ := hcut
      clear a0 a1' a2 d0 d1 d2 y0 y1 hs3 B3 R3 U3 s0 s1 w3 H3 H4 HSx HSy
      have v0 : Hid _ := v0'
      have v1 : Hid _ := v1'
      have v7 : Hid _ := v7'
      have v8 : Hid _ := v8'
      have RX : Hid (Rep _ _ _ _) := RX'
      have RY : Hid (Rep _ _ _ _) := RY'
      clear v0' v1' v7' v8' RX' RY'
      obtain ⟨f0, f1, f2, -⟩ := blk3 v0.out
      obtain ⟨j0, j1, j2, -⟩ := blk3 v1.out
      obtain ⟨m0, m1, m2, -⟩ := blk3 v7.out
      obtain ⟨i0, i1, i2, -⟩ := blk3 v8.out
      have RF0 := hrep0.up BC
      have UF0 := hu0.up BC
      rcases HCZ.out with ⟨c, a, hc, hcf⟩ | ⟨hcf, s, hs⟩
      · obtain ⟨rfl, rfl, rfl⟩ := putR_bad HPR.out hc hcf
        obtain ⟨hnb, hpb⟩ := HALL.out.1 c3 a3 hc hcf
        rw [hcf] at HRf
        have HN : Hid (∀ v w, Rep w (fun _ => True) (.mk k n ks) v → Calls Try.prog 20 #[v] w _) := hnb
        have HP : Hid (∀ v w, Rep w (fun _ => True) (.mk k n ks) v → Calls Try.prog 21 #[v] w _) := hpb
        have hcJ : (c3 != 0) = true := by simpa using hc
        clear hnb hpb HALL HPR HCZ hc hcf HRg
        go_wp2_with (first
        | (go_at_call 20
           refine (HN.out _ _ RX.out).mono ?_
           rintro e w9 ⟨rfl, hb9⟩
           have B9 := below_join BC hb9
           have p0 : Hid _ := below_keep hb9 v0.out
           have p1 : Hid _ := below_keep hb9 v1.out
           have p7 : Hid _ := below_keep hb9 v7.out
           have p8 : Hid _ := below_keep hb9 v8.out
           have X9 : Hid (Rep _ _ _ _) := RX.out.up hb9
           have Y9 : Hid (Rep _ _ _ _) := RY.out.up hb9
           clear f0 f1 f2 j0 j1 j2 m0 m1 m2 i0 i1 i2
           obtain ⟨f0, f1, f2, -⟩ := blk3 p0.out
           obtain ⟨m0, m1, m2, -⟩ := blk3 p7.out
           have l0 := lt_of_block p0.out
           have l7 := lt_of_block p7.out)
        | (go_at_call 21
           refine (HP.out _ _ (X9.out.more _)).mono ?_
           rintro e w10 ⟨rfl, hb10⟩
           have B10 := below_join (below_more B9 _) hb10
           have q0 : Hid _ := below_keep hb10 (alloc_keep p0.out _)
           have q1 : Hid _ := below_keep hb10 (alloc_keep p1.out _)
           have q7 : Hid _ := below_keep hb10 (alloc_keep p7.out _)
           have q8 : Hid _ := below_keep hb10 (alloc_keep p8.out _)
           have qe1 : Hid _ := below_keep hb10 (blk_new w9 _)
           have X10 : Hid (Rep _ _ _ _) := (X9.out.more _).up hb10
           have Y10 : Hid (Rep _ _ _ _) := (Y9.out.more _).up hb10
           clear f0 f1 f2 m0 m1 m2
           obtain ⟨m0, m1, m2, -⟩ := blk3 q7.out
           obtain ⟨i0, i1, i2, -⟩ := blk3 q8.out
           have l7' := lt_of_block q7.out
           have l8' := lt_of_block q8.out)
        | (go_at_call 22
           refine (HPu.out _ _ _ (X10.out.more _) (Y10.out.more _)).mono ?_
           rintro e w11 ⟨x, rfl, hrep11, hb11⟩
           obtain ⟨sl9, cp9, rfl⟩ := slice_shape hrep11
           have B11 := below_join (below_more B10 _) hb11
           have r0 : Hid _ := below_keep hb11 (alloc_keep q0.out _)
           have r1 : Hid _ := below_keep hb11 (alloc_keep q1.out _)
           have r7 : Hid _ := below_keep hb11 (alloc_keep q7.out _)
           have r8 : Hid _ := below_keep hb11 (alloc_keep q8.out _)
           have re1 : Hid _ := below_keep hb11 (alloc_keep qe1.out _)
           have re2 : Hid _ := below_keep hb11 (blk_new w10 _)
           have X11 : Hid (Rep _ _ _ _) := (X10.out.more _).up hb11
           have Y11 : Hid (Rep _ _ _ _) := (Y10.out.more _).up hb11
           clear m0 m1 m2 i0 i1 i2
           obtain ⟨f0, f1, f2, -⟩ := blk3 r0.out
           have n0 := lt_of_block r0.out)
        | (go_at_call 14
           refine (HRf.out _ _ (hrep0.up (below_more (below_more B11 _) _))).mono ?_
           rintro e w12 ⟨rfl, hb12⟩
           have B12 := below_join (below_more (below_more B11 _) _) hb12
           have s0 : Hid _ := below_keep hb12 (alloc_keep (alloc_keep r0.out _) _)
           have s1 : Hid _ := below_keep hb12 (alloc_keep (alloc_keep r1.out _) _)
           have s7 : Hid _ := below_keep hb12 (alloc_keep (alloc_keep r7.out _) _)
           have s8 : Hid _ := below_keep hb12 (alloc_keep (alloc_keep r8.out _) _)
           have se1 : Hid _ := below_keep hb12 (alloc_keep (alloc_keep re1.out _) _)
           have se2 : Hid _ := below_keep hb12 (alloc_keep (alloc_keep re2.out _) _)
           have sh : Hid _ := below_keep hb12 (alloc_keep (blk_new w11 _) _)
           have se3 : Hid _ := below_keep hb12 (blk_new2 w11 _ _)
           have X12 : Hid (Rep _ _ _ _) := ((X11.out.more _).more _).up hb12
           have Y12 : Hid (Rep _ _ _ _) := ((Y11.out.more _).more _).up hb12
           have H12 : Hid (Rep _ _ _ _) := ((hrep11.all.more _).more _).up hb12
           clear f0 f1 f2
           obtain ⟨f0, f1, f2, -⟩ := blk3 s0.out
           obtain ⟨m0, m1, m2, -⟩ := blk3 s7.out
           obtain ⟨k1, k2, -⟩ := blk2 se1.out
           obtain ⟨k3, k4, -⟩ := blk2 se2.out
           have o0 := lt_of_block s0.out
           have o7 := lt_of_block s7.out
           have oe1 := lt_of_block se1.out
           have oe2 := lt_of_block se2.out)
        | fail)
        have e1 := hrep0.up (below_more B12 (.cells #[.int .i64 c3, .int .i64 a3] 29 (0, 0)))
        have e2 := X12.out.more (.cells #[.int .i64 c3, .int .i64 a3] 29 (0, 0))
        have e3 := HSf.out _ _ _ e2 e1
        refine e3.mono ?_
        rintro e w13 ⟨rfl, hb13⟩
        have B13 := below_join (below_more B12 _) hb13
        have t0 : Hid _ := below_keep hb13 (alloc_keep s0.out _)
        have t1 : Hid _ := below_keep hb13 (alloc_keep s1.out _)
        have t8 : Hid _ := below_keep hb13 (alloc_keep s8.out _)
        have th : Hid _ := below_keep hb13 (alloc_keep sh.out _)
        have te3 : Hid _ := below_keep hb13 (alloc_keep se3.out _)
        have tw : Hid _ := below_keep hb13 (blk_new w12 _)
        have Y13 : Hid (Rep _ _ _ _) := (Y12.out.more _).up hb13
        have H13 : Hid (Rep _ _ _ _) := (H12.out.more _).up hb13
        clear f0 f1 f2 m0 m1 m2 k1 k2 k3 k4 e1 e2 e3
        obtain ⟨j0, j1, j2, -⟩ := blk3 t1.out
        obtain ⟨i0, i1, i2, -⟩ := blk3 t8.out
        go_wp2_with fail
        refine (HSg.out _ _ _ Y13.out (hu0.up B13)).mono ?_
        rintro e w14 ⟨rfl, hb14⟩
        have B14 := below_join B13 hb14
        have u0 : Hid _ := below_keep hb14 t0.out
        have u1 : Hid _ := below_keep hb14 t1.out
        have uh : Hid _ := below_keep hb14 th.out
        have ue3 : Hid _ := below_keep hb14 te3.out
        have uw : Hid _ := below_keep hb14 tw.out
        have H14 : Hid (Rep _ _ _ _) := H13.out.up hb14
        clear j0 j1 j2 i0 i1 i2
        obtain ⟨kw0, kw1, -⟩ := blk2 uw.out
        obtain ⟨ke0, ke1, -⟩ := blk2 ue3.out
        obtain ⟨h0, h1, h2, -⟩ := blk3 uh.out
        go_wp2_with fail
        refine (none_any 0 e0 [] _ _ H14.out).mono ?_
        rintro e w15 ⟨rfl, hb15⟩
        have B15 := below_join B14 hb15
        go_wp2_with fail
        go_ret
        exact ⟨by simp [e0], B15⟩
      · obtain ⟨hno, hpo, hni, hpi, hwi, hwl⟩ := HALL.out.2.1 s hs
        have hwk := HALL.out.2.2.1
        have hsr := HALL.out.2.2.2
        rw [hcf] at HRf
        have HN : Hid (∀ v w, Rep w (fun _ => True) (.mk k n ks) v → Calls Try.prog 20 #[v] w _) := hno
        have HP : Hid (∀ v w, Rep w (fun _ => True) (.mk k n ks) v → Calls Try.prog 21 #[v] w _) := hpo
        have HNi : Hid (∀ v w, FL w v [.mk k n ks] → Calls Try.prog 24 #[v] w _) := hni
        have HPi : Hid (∀ v w, FL w v [.mk k n ks] → Calls Try.prog 26 #[v] w _) := hpi
        have HWi : Hid (∀ v u w, Rep w (fun _ => True) (.mk k n ks) v → Rep w (fun _ => True) (.mk kg ng ksg) u → Calls Try.prog 29 #[v, .string nm, u] w _) := hwi
        have HWk : Hid (∀ v w, Rep w (fun _ => True) (putF nm (.mk kg ng ksg) (.mk k n ks)) v → Calls Try.prog 30 #[v, .int .i64 201] w _) := hwk
        have HSr : Hid (∀ v u w, Rep w (fun _ => True) (putF nm (.mk kg ng ksg) (.mk k n ks)) v → Rep w (fun _ => True) (putF nm (.mk kg ng ksg) (.mk k n ks)) u → Calls Try.prog 15 #[v, u] w _) := hsr
        have HWl : Hid ((walkL (putF nm (.mk kg ng ksg) (.mk k n ks)) 201).length = min 202 (cntW nm (Fm.mk kg ng ksg).size (allN (.mk k n ks)))) := hwl
        have HCF : Hid ((Fm.mk k n ks).code = (0, 0)) := hcf
        clear hno hpo hni hpi hwi hwl hwk hsr HALL HCZ hs hcf
        go_wp2_with (first
        | (go_at_call 20
           refine (HN.out _ _ RX.out).mono ?_
           rintro e w9 ⟨xn, rfl, htl9, hb9⟩
           have HT9 : Hid (TL w9 xn (nmsU (.mk k n ks))) := htl9
           obtain ⟨adN, cpN, rfl, -⟩ := htl9
           have B9 := below_join BC hb9
           have p0 : Hid _ := below_keep hb9 v0.out
           have p1 : Hid _ := below_keep hb9 v1.out
           have p7 : Hid _ := below_keep hb9 v7.out
           have p8 : Hid _ := below_keep hb9 v8.out
           have X9 : Hid (Rep _ _ _ _) := RX.out.up hb9
           have Y9 : Hid (Rep _ _ _ _) := RY.out.up hb9
           clear f0 f1 f2 j0 j1 j2 m0 m1 m2 i0 i1 i2
           obtain ⟨f0, f1, f2, -⟩ := blk3 p0.out
           obtain ⟨m0, m1, m2, -⟩ := blk3 p7.out
           have l0 := lt_of_block p0.out
           have l7 := lt_of_block p7.out)
        | (go_at_call 21
           refine (HP.out _ _ (X9.out.more _)).mono ?_
           rintro e w10 ⟨xp, rfl, hfl10, hb10⟩
           have HT10 : Hid (FL w10 xp (partsL [] (allN (.mk k n ks)))) := hfl10
           obtain ⟨adP, cpP, rfl, -⟩ := hfl10
           have HT9' : Hid (TL w10 (.slice adN (nmsU (.mk k n ks)).length cpN) (nmsU (.mk k n ks))) := (HT9.out.up ((Below.refl _ w9).alloc (Nat.le_refl _) _)).up hb10
           have B10 := below_join (below_more B9 _) hb10
           have q0 : Hid _ := below_keep hb10 (alloc_keep p0.out _)
           have q1 : Hid _ := below_keep hb10 (alloc_keep p1.out _)
           have q7 : Hid _ := below_keep hb10 (alloc_keep p7.out _)
           have q8 : Hid _ := below_keep hb10 (alloc_keep p8.out _)
           have qe1 : Hid _ := below_keep hb10 (blk_new w9 _)
           have X10 : Hid (Rep _ _ _ _) := (X9.out.more _).up hb10
           have Y10 : Hid (Rep _ _ _ _) := (Y9.out.more _).up hb10
           clear f0 f1 f2 m0 m1 m2
           obtain ⟨m0, m1, m2, -⟩ := blk3 q7.out
           obtain ⟨i0, i1, i2, -⟩ := blk3 q8.out
           have l7' := lt_of_block q7.out
           have l8' := lt_of_block q8.out)
        | (go_at_call 22
           refine (HPu.out _ _ _ (X10.out.more _) (Y10.out.more _)).mono ?_
           rintro e w11 ⟨x, rfl, hrep11, hb11⟩
           obtain ⟨kr, nr, ksr⟩ := r
           obtain ⟨sl9, cp9, rfl⟩ := slice_shape hrep11
           have HT9'' : Hid (TL w11 (.slice adN (nmsU (.mk k n ks)).length cpN) (nmsU (.mk k n ks))) := (HT9'.out.up ((Below.refl _ w10).alloc (Nat.le_refl _) _)).up hb11
           have HT10' : Hid (FL w11 (.slice adP (partsL [] (allN (.mk k n ks))).length cpP) (partsL [] (allN (.mk k n ks)))) := (HT10.out.up ((Below.refl _ w10).alloc (Nat.le_refl _) _)).up hb11
           have B11 := below_join (below_more B10 _) hb11
           have r0 : Hid _ := below_keep hb11 (alloc_keep q0.out _)
           have r1 : Hid _ := below_keep hb11 (alloc_keep q1.out _)
           have r7 : Hid _ := below_keep hb11 (alloc_keep q7.out _)
           have r8 : Hid _ := below_keep hb11 (alloc_keep q8.out _)
           have re1 : Hid _ := below_keep hb11 (alloc_keep qe1.out _)
           have re2 : Hid _ := below_keep hb11 (blk_new w10 _)
           have X11 : Hid (Rep _ _ _ _) := (X10.out.more _).up hb11
           have Y11 : Hid (Rep _ _ _ _) := (Y10.out.more _).up hb11
           clear m0 m1 m2 i0 i1 i2
           obtain ⟨f0, f1, f2, -⟩ := blk3 r0.out
           have n0 := lt_of_block r0.out)
        | (go_at_call 14
           refine (HRf.out _ _ (hrep0.up (below_more (below_more B11 _) _))).mono ?_
           rintro e w12 ⟨rfl, hb12⟩
           have B12 := below_join (below_more (below_more B11 _) _) hb12
           have s0 : Hid _ := below_keep hb12 (alloc_keep (alloc_keep r0.out _) _)
           have s1 : Hid _ := below_keep hb12 (alloc_keep (alloc_keep r1.out _) _)
           have s7 : Hid _ := below_keep hb12 (alloc_keep (alloc_keep r7.out _) _)
           have s8 : Hid _ := below_keep hb12 (alloc_keep (alloc_keep r8.out _) _)
           have se1 : Hid _ := below_keep hb12 (alloc_keep (alloc_keep re1.out _) _)
           have se2 : Hid _ := below_keep hb12 (alloc_keep (alloc_keep re2.out _) _)
           have sh : Hid _ := below_keep hb12 (alloc_keep (blk_new w11 _) _)
           have se3 : Hid _ := below_keep hb12 (blk_new2 w11 _ _)
           have X12 : Hid (Rep _ _ _ _) := ((X11.out.more _).more _).up hb12
           have Y12 : Hid (Rep _ _ _ _) := ((Y11.out.more _).more _).up hb12
           have H12 : Hid (Rep _ _ _ _) := ((hrep11.all.more _).more _).up hb12
           clear f0 f1 f2
           obtain ⟨f0, f1, f2, -⟩ := blk3 s0.out
           obtain ⟨m0, m1, m2, -⟩ := blk3 s7.out
           obtain ⟨k1, k2, -⟩ := blk2 se1.out
           obtain ⟨k3, k4, -⟩ := blk2 se2.out
           have o0 := lt_of_block s0.out
           have o7 := lt_of_block s7.out
           have oe1 := lt_of_block se1.out
           have oe2 := lt_of_block se2.out)
        | fail)
        have e1 := hrep0.up (below_more B12 (.cells #[.int .i64 0, .int .i64 0] 29 (0, 0)))
        have e2 := X12.out.more (.cells #[.int .i64 0, .int .i64 0] 29 (0, 0))
        have e3 := HSf.out _ _ _ e2 e1
        refine e3.mono ?_
        rintro e w13 ⟨rfl, hb13⟩
        have B13 := below_join (below_more B12 _) hb13
        have t0 : Hid _ := below_keep hb13 (alloc_keep s0.out _)
        have t1 : Hid _ := below_keep hb13 (alloc_keep s1.out _)
        have t8 : Hid _ := below_keep hb13 (alloc_keep s8.out _)
        have th : Hid _ := below_keep hb13 (alloc_keep sh.out _)
        have te3 : Hid _ := below_keep hb13 (alloc_keep se3.out _)
        have tw : Hid _ := below_keep hb13 (blk_new w12 _)
        have Y13 : Hid (Rep _ _ _ _) := (Y12.out.more _).up hb13
        have HT13 : Hid (TL w13 (.slice adN (nmsU (.mk k n ks)).length cpN) (nmsU (.mk k n ks))) := ((((HT9''.out.up (below_more (below_more (Below.refl _ w11) _) _)).up hb12).up ((Below.refl _ w12).alloc (Nat.le_refl _) _)).up hb13)
        have HF13 : Hid (FL w13 (.slice adP (partsL [] (allN (.mk k n ks))).length cpP) (partsL [] (allN (.mk k n ks)))) := ((((HT10'.out.up (below_more (below_more (Below.refl _ w11) _) _)).up hb12).up ((Below.refl _ w12).alloc (Nat.le_refl _) _)).up hb13)
        have H13 : Hid (Rep _ _ _ _) := (H12.out.more _).up hb13
        clear f0 f1 f2 m0 m1 m2 k1 k2 k3 k4 e1 e2 e3
        obtain ⟨j0, j1, j2, -⟩ := blk3 t1.out
        obtain ⟨i0, i1, i2, -⟩ := blk3 t8.out
        go_wp2_with fail
        refine (HSg.out _ _ _ Y13.out (hu0.up B13)).mono ?_
        rintro e w14 ⟨rfl, hb14⟩
        have B14 := below_join B13 hb14
        have u0 : Hid _ := below_keep hb14 t0.out
        have u1 : Hid _ := below_keep hb14 t1.out
        have uh : Hid _ := below_keep hb14 th.out
        have ue3 : Hid _ := below_keep hb14 te3.out
        have uw : Hid _ := below_keep hb14 tw.out
        have H14 : Hid (Rep _ _ _ _) := H13.out.up hb14
        clear j0 j1 j2 i0 i1 i2
        have HT14 : Hid (TL w14 _ _) := HT13.out.up hb14
        have HF14 : Hid (FL w14 _ _) := HF13.out.up hb14
        obtain ⟨kw0, kw1, kw2, kw3⟩ := blk2 uw.out
        obtain ⟨f0, f1, f2, -⟩ := blk3 u0.out
        obtain ⟨ke0, ke1, -⟩ := blk2 ue3.out
        obtain ⟨h0, h1, h2, -⟩ := blk3 uh.out
        go_wp2_with fail
        refine (HNi.out _ _ (FL.single (blk_new w14 _) ((hrep0.up B14).more _))).mono ?_
        rintro e w15 ⟨xi, rfl, hti, hb15⟩
        have HTi : Hid (TL w15 xi (nmsU (.mk k n ks))) := hti
        obtain ⟨adI, cpI, rfl, -⟩ := hti
        have B15 := below_join (below_more B14 _) hb15
        have x0 : Hid _ := below_keep hb15 (alloc_keep u0.out _)
        have x1 : Hid _ := below_keep hb15 (alloc_keep u1.out _)
        have xh : Hid _ := below_keep hb15 (alloc_keep uh.out _)
        have xe3 : Hid _ := below_keep hb15 (alloc_keep ue3.out _)
        have xw : Hid _ := below_keep hb15 (alloc_keep uw.out _)
        have H15 : Hid (Rep _ _ _ _) := (H14.out.more _).up hb15
        have HT15 : Hid (TL w15 _ _) := (HT14.out.up ((Below.refl _ w14).alloc (Nat.le_refl _) _)).up hb15
        have HF15 : Hid (FL w15 _ _) := (HF14.out.up ((Below.refl _ w14).alloc (Nat.le_refl _) _)).up hb15
        clear f0 f1 f2 kw0 kw1 kw2 kw3 ke0 ke1 h0 h1 h2
        go_wp2_with fail
        refine (texts_same _ _ _ _ HT15.out HTi.out).mono ?_
        rintro e w16 ⟨rfl, hb16⟩
        have B16 := below_join B15 hb16
        have y0 : Hid _ := below_keep hb16 x0.out
        have y1 : Hid _ := below_keep hb16 x1.out
        have yh : Hid _ := below_keep hb16 xh.out
        have ye3 : Hid _ := below_keep hb16 xe3.out
        have yw : Hid _ := below_keep hb16 xw.out
        have H16 : Hid (Rep _ _ _ _) := H15.out.up hb16
        have HF16 : Hid (FL w16 _ _) := HF15.out.up hb16
        obtain ⟨f0, f1, f2, -⟩ := blk3 y0.out
        go_wp2_with fail
        refine (HPi.out _ _ (FL.single (blk_new w16 _) ((hrep0.up B16).more _))).mono ?_
        rintro e w17 ⟨xq, rfl, htq, hb17⟩
        have HTq : Hid (FL w17 xq (partsL [] (allN (.mk k n ks)))) := htq
        obtain ⟨adQ, cpQ, rfl, -⟩ := htq
        have B17 := below_join (below_more B16 _) hb17
        have a0 : Hid _ := below_keep hb17 (alloc_keep y0.out _)
        have a1 : Hid _ := below_keep hb17 (alloc_keep y1.out _)
        have ah : Hid _ := below_keep hb17 (alloc_keep yh.out _)
        have ae3 : Hid _ := below_keep hb17 (alloc_keep ye3.out _)
        have aw : Hid _ := below_keep hb17 (alloc_keep yw.out _)
        have H17 : Hid (Rep _ _ _ _) := (H16.out.more _).up hb17
        have HF17 : Hid (FL w17 _ _) := (HF16.out.up ((Below.refl _ w16).alloc (Nat.le_refl _) _)).up hb17
        clear f0 f1 f2
        go_wp2_with fail
        refine (alike_same _ _ _ _ HF17.out HTq.out).mono ?_
        rintro e w18 ⟨rfl, hb18⟩
        have B18 := below_join B17 hb18
        have c0 : Hid _ := below_keep hb18 a0.out
        have c1 : Hid _ := below_keep hb18 a1.out
        have ch : Hid _ := below_keep hb18 ah.out
        have ce3 : Hid _ := below_keep hb18 ae3.out
        have cw : Hid _ := below_keep hb18 aw.out
        have H18 : Hid (Rep _ _ _ _) := H17.out.up hb18
        have bl18 := below_join (below_join (below_more (below_join (below_join (below_more (below_join (below_join (below_more (Below.refl _ w12) _) hb13) hb14) _) hb15) hb16) _) hb17) hb18
        have HB18 : Hid (Rep w18 (fun b => b ≠ w12.heap.size) (.mk kr nr ksr) (.agg #[.int .i64 kr, .string nr, .slice sl9 ksr.length cp9])) := (H12.out.move (ok' := fun b => b ≠ w12.heap.size) fun b hb _ => ⟨rfl, Nat.ne_of_lt hb⟩).up' bl18
        clear bl18
        obtain ⟨f0, f1, f2, -⟩ := blk3 c1.out
        have z11 : w.heap.size + 2 ≤ w11.heap.size := lt_of_block r1.out
        have z12 : w11.heap.size + 1 < w12.heap.size := lt_of_block se3.out
        go_wp2_with fail
        rcases putR_split HPR.out HCF.out with ⟨hg, hn, h200, hr, hc3, ha3⟩ | ⟨c, a, hc, hg, hr, hc3, ha3⟩ | ⟨hg, hn, hr, hc3, ha3⟩ | ⟨hg, hn, h200, hr, hc3, ha3⟩
        · rw [hg] at HRg
          subst hc3 ha3
          rw [hr] at H18
          have hr' := hr
          generalize putF nm (.mk kg ng ksg) (.mk k n ks) = P at *
          subst hr
          have hnm' := fun w => refName_any nm hnm w
          rw [hn] at hnm'
          have HNm : Hid (∀ w, Calls Try.prog 27 #[.string nm] w _) := hnm'
          have HW2 : Hid ((walkL (.mk kr nr ksr) 201).length ≤ 200) := by have := HWl.out; show _ ≤ _; omega
          clear HPR hg hn hnm' h200
          refine (HRg.out _ _ (hu0.up B18)).mono ?_
          rintro e w19 ⟨rfl, hb19⟩
          have B19 := below_join B18 hb19
          have d0 : Hid _ := below_keep hb19 c0.out
          have d1 : Hid _ := below_keep hb19 c1.out
          have dh : Hid _ := below_keep hb19 ch.out
          have de3 : Hid _ := below_keep hb19 ce3.out
          have dw : Hid _ := below_keep hb19 cw.out
          have H19 : Hid (Rep _ _ _ _) := H18.out.up hb19
          have HRB : Hid (Rep w19 (fun b => b ≠ w12.heap.size) _ _) := HB18.out.up' hb19
          obtain ⟨fw, bw, kp⟩ := flt_set (R := w12.heap.size) (by omega) B19 dw.out 0 0
          obtain ⟨kw0, kw1, kw2, kw3⟩ := blk2 dw.out
          have ne1 : ¬ w12.heap.size = w11.heap.size + 1 := by omega
          have ne2 : ¬ w12.heap.size = w11.heap.size := by omega
          have ne3 : ¬ w12.heap.size = w.heap.size := by omega
          have ne4 : ¬ w12.heap.size = w.heap.size + 1 := by omega
          obtain ⟨ke0, ke1, -⟩ := blk2 de3.out
          obtain ⟨h0, h1, h2, -⟩ := blk3 dh.out
          obtain ⟨g0, g1, g2, -⟩ := blk3 d0.out
          obtain ⟨i0, i1, i2, -⟩ := blk3 d1.out
          clear f0 f1 f2
          go_wp2_with fail
          have hRepF : Rep ((w19.setCell ⟨w12.heap.size, 0, none⟩ (.int .i64 0)).setCell ⟨w12.heap.size, 1, none⟩ (.int .i64 0)) (fun _ => True) (.mk kr nr ksr) (.agg #[.int .i64 kr, .string nr, .slice sl9 ksr.length cp9]) := HRB.out.move fun b hb hx => ⟨kp b hx, trivial⟩
          have e0' := (kp _ (Ne.symm ne3)).trans d0.out
          have e1' := (kp _ (Ne.symm ne4)).trans d1.out
          have eh := (kp _ (Ne.symm ne2)).trans dh.out
          have ee3 := (kp _ (Ne.symm ne1)).trans de3.out
          generalize World.setCell _ _ _ = F at bw fw kp e0' e1' eh ee3 hRepF ⊢
          have F0 : Hid _ := e0'
          have F1 : Hid _ := e1'
          have FH : Hid _ := eh
          have F3 : Hid _ := ee3
          have FW : Hid _ := fw
          have HF : Hid (Rep F (fun _ => True) (.mk kr nr ksr) (.agg #[.int .i64 kr, .string nr, .slice sl9 ksr.length cp9])) := hRepF
          clear kw0 kw1 kw2 kw3 ke0 ke1 h0 h1 h2 g0 g1 g2 i0 i1 i2 e0' e1' eh ee3 fw kp ne1 ne2 ne3 ne4
          obtain ⟨kw0, kw1, -⟩ := blk2 FW.out
          obtain ⟨g0, g1, g2, -⟩ := blk3 F0.out
          obtain ⟨i0, i1, i2, -⟩ := blk3 F1.out
          refine (HNm.out _).mono ?_
          rintro e w20 ⟨rfl, hw20⟩
          have hw21 := hw20.symm
          subst hw21
          go_wp2_with fail
          refine (HWi.out _ _ _ (hrep0.up bw) (hu0.up bw)).mono ?_
          rintro e w21 ⟨x, rfl, hrw, hb21⟩
          obtain ⟨sW, cW, rfl⟩ := slice_shape hrw
          have HRw : Hid (Rep _ _ _ _) := hrw
          have B21 := below_join bw hb21
          have G3 : Hid _ := below_keep hb21 F3.out
          have GH : Hid _ := below_keep hb21 FH.out
          have HG21 : Hid (Rep _ _ _ _) := HF.out.up hb21
          clear kw0 kw1 g0 g1 g2 i0 i1 i2 hrw
          go_wp2_with fail
          refine (HWk.out _ _ (HRw.out.more _)).mono ?_
          rintro e w22 ⟨ul, rfl, hlo, hb22⟩
          obtain ⟨gl, cpl, csl, rfl, -⟩ := hlo
          have hwI : ((walkL (.mk kr nr ksr) 201).length : Int) ≤ 200 := by have := HW2.out; omega
          have B22 := below_join (below_more B21 _) hb22
          have J3 : Hid _ := below_keep hb22 (alloc_keep G3.out _)
          have JH : Hid _ := below_keep hb22 (alloc_keep GH.out _)
          have JW : Hid _ := below_keep hb22 (blk_new w21 _)
          have HR22 : Hid (Rep _ _ _ _) := (HRw.out.more _).up hb22
          have HG22 : Hid (Rep _ _ _ _) := (HG21.out.more _).up hb22
          obtain ⟨ke0, ke1, -⟩ := blk2 J3.out
          obtain ⟨h0, h1, h2, -⟩ := blk3 JH.out
          obtain ⟨o0, o1, o2, -⟩ := blk3 JW.out
          go_wp2_with fail
          refine (HSr.out _ _ _ HG22.out HR22.out).mono ?_
          rintro e w23 ⟨rfl, hb23⟩
          have B23 := below_join B22 hb23
          go_wp2_with fail
          go_ret
          exact ⟨rfl, B23⟩
        · rw [hg] at HRg
          simp only [Fm.mk.injEq] at hr
          obtain ⟨rfl, rfl, rfl⟩ := hr
          subst hc3 ha3
          have hcJ : (c3 == 0) = false := by simpa using hc
          clear HPR hc hg
          refine (HRg.out _ _ (hu0.up B18)).mono ?_
          rintro e w19 ⟨rfl, hb19⟩
          have B19 := below_join B18 hb19
          have d0 : Hid _ := below_keep hb19 c0.out
          have d1 : Hid _ := below_keep hb19 c1.out
          have dh : Hid _ := below_keep hb19 ch.out
          have de3 : Hid _ := below_keep hb19 ce3.out
          have dw : Hid _ := below_keep hb19 cw.out
          have H19 : Hid (Rep _ _ _ _) := H18.out.up hb19
          have HRB : Hid (Rep w19 (fun b => b ≠ w12.heap.size) _ _) := HB18.out.up' hb19
          obtain ⟨fw, bw, kp⟩ := flt_set (R := w12.heap.size) (by omega) B19 dw.out c3 a3
          obtain ⟨kw0, kw1, kw2, kw3⟩ := blk2 dw.out
          have ne1 : ¬ w12.heap.size = w11.heap.size + 1 := by omega
          have ne2 : ¬ w12.heap.size = w11.heap.size := by omega
          have ne3 : ¬ w12.heap.size = w.heap.size := by omega
          have ne4 : ¬ w12.heap.size = w.heap.size + 1 := by omega
          obtain ⟨ke0, ke1, -⟩ := blk2 de3.out
          obtain ⟨h0, h1, h2, -⟩ := blk3 dh.out
          obtain ⟨g0, g1, g2, -⟩ := blk3 d0.out
          obtain ⟨i0, i1, i2, -⟩ := blk3 d1.out
          clear f0 f1 f2
          clear fw kp
          go_wp2_with fail
          generalize World.setCell _ _ _ = F at bw ⊢
          refine (none_any 0 e0 [] _ _ H18.out.bare).mono ?_
          rintro e w20 ⟨rfl, hb20⟩
          have B20 := below_join bw hb20
          go_wp2_with fail
          go_ret
          exact ⟨by simp [e0], B20⟩
        · rw [hg] at HRg
          simp only [Fm.mk.injEq] at hr
          obtain ⟨rfl, rfl, rfl⟩ := hr
          subst hc3 ha3
          have hnm' := fun w => refName_any nm hnm w
          rw [hn] at hnm'
          have HNm : Hid (∀ w, Calls Try.prog 27 #[.string nm] w _) := hnm'
          clear HPR hg hn hnm'
          refine (HRg.out _ _ (hu0.up B18)).mono ?_
          rintro e w19 ⟨rfl, hb19⟩
          have B19 := below_join B18 hb19
          have d0 : Hid _ := below_keep hb19 c0.out
          have d1 : Hid _ := below_keep hb19 c1.out
          have dh : Hid _ := below_keep hb19 ch.out
          have de3 : Hid _ := below_keep hb19 ce3.out
          have dw : Hid _ := below_keep hb19 cw.out
          have H19 : Hid (Rep _ _ _ _) := H18.out.up hb19
          obtain ⟨fw, bw, kp⟩ := flt_set (R := w12.heap.size) (by omega) B19 dw.out 0 0
          obtain ⟨kw0, kw1, kw2, kw3⟩ := blk2 dw.out
          have ne1 : ¬ w12.heap.size = w11.heap.size + 1 := by omega
          have ne2 : ¬ w12.heap.size = w11.heap.size := by omega
          have ne3 : ¬ w12.heap.size = w.heap.size := by omega
          have ne4 : ¬ w12.heap.size = w.heap.size + 1 := by omega
          obtain ⟨ke0, ke1, -⟩ := blk2 de3.out
          obtain ⟨h0, h1, h2, -⟩ := blk3 dh.out
          obtain ⟨g0, g1, g2, -⟩ := blk3 d0.out
          obtain ⟨i0, i1, i2, -⟩ := blk3 d1.out
          clear f0 f1 f2
          go_wp2_with fail
          have e0' := (kp _ (Ne.symm ne3)).trans d0.out
          have e1' := (kp _ (Ne.symm ne4)).trans d1.out
          have eh := (kp _ (Ne.symm ne2)).trans dh.out
          have ee3 := (kp _ (Ne.symm ne1)).trans de3.out
          generalize World.setCell _ _ _ = F at bw fw kp e0' e1' eh ee3 ⊢
          have F0 : Hid _ := e0'
          have F1 : Hid _ := e1'
          have FH : Hid _ := eh
          have F3 : Hid _ := ee3
          have FW : Hid _ := fw
          clear kw0 kw1 kw2 kw3 ke0 ke1 h0 h1 h2 g0 g1 g2 i0 i1 i2 e0' e1' eh ee3 fw kp
          obtain ⟨kw0, kw1, -⟩ := blk2 FW.out
          obtain ⟨g0, g1, g2, -⟩ := blk3 F0.out
          obtain ⟨i0, i1, i2, -⟩ := blk3 F1.out
          refine (HNm.out _).mono ?_
          rintro e w20 ⟨rfl, hw20⟩
          have hw21 := hw20.symm
          subst hw21
          go_wp2_with fail
          refine (fault_any _ _ _).mono ?_
          rintro e w21 ⟨rfl, hb21⟩
          have B21 := below_join bw hb21
          have G3 : Hid _ := below_keep hb21 F3.out
          have GH : Hid _ := below_keep hb21 FH.out
          have GW : Hid _ := below_keep hb21 FW.out
          obtain ⟨fw, bw2, -⟩ := flt_set (R := w12.heap.size) (by omega) B21 GW.out 8 0
          clear kw0 kw1 g0 g1 g2 i0 i1 i2
          obtain ⟨kw0, kw1, kw2, kw3⟩ := blk2 GW.out
          obtain ⟨ke0, ke1, -⟩ := blk2 G3.out
          obtain ⟨h0, h1, h2, -⟩ := blk3 GH.out
          clear fw
          go_wp2_with fail
          generalize World.setCell _ _ _ = F2 at bw2 ⊢
          refine (none_any 0 e0 [] _ _ H18.out.bare).mono ?_
          rintro e w20 ⟨rfl, hb20⟩
          have B20 := below_join bw2 hb20
          go_wp2_with fail
          go_ret
          exact ⟨by simp [e0], B20⟩
        · rw [hg] at HRg
          simp only [Fm.mk.injEq] at hr
          obtain ⟨rfl, rfl, rfl⟩ := hr
          subst hc3 ha3
          have hnm' := fun w => refName_any nm hnm w
          rw [hn] at hnm'
          have HNm : Hid (∀ w, Calls Try.prog 27 #[.string nm] w _) := hnm'
          have HW2 : Hid (200 < (walkL (putF nm (.mk kg ng ksg) (.mk k n ks)) 201).length) := by have := HWl.out; show _ < _; omega
          generalize putF nm (.mk kg ng ksg) (.mk k n ks) = P at *
          obtain ⟨kP, nP, ksP⟩ := P
          clear HPR hg hn hnm' h200 HWl
          refine (HRg.out _ _ (hu0.up B18)).mono ?_
          rintro e w19 ⟨rfl, hb19⟩
          have B19 := below_join B18 hb19
          have d0 : Hid _ := below_keep hb19 c0.out
          have d1 : Hid _ := below_keep hb19 c1.out
          have dh : Hid _ := below_keep hb19 ch.out
          have de3 : Hid _ := below_keep hb19 ce3.out
          have dw : Hid _ := below_keep hb19 cw.out
          have H19 : Hid (Rep _ _ _ _) := H18.out.up hb19
          obtain ⟨fw, bw, kp⟩ := flt_set (R := w12.heap.size) (by omega) B19 dw.out 0 0
          obtain ⟨kw0, kw1, kw2, kw3⟩ := blk2 dw.out
          have ne1 : ¬ w12.heap.size = w11.heap.size + 1 := by omega
          have ne2 : ¬ w12.heap.size = w11.heap.size := by omega
          have ne3 : ¬ w12.heap.size = w.heap.size := by omega
          have ne4 : ¬ w12.heap.size = w.heap.size + 1 := by omega
          obtain ⟨ke0, ke1, -⟩ := blk2 de3.out
          obtain ⟨h0, h1, h2, -⟩ := blk3 dh.out
          obtain ⟨g0, g1, g2, -⟩ := blk3 d0.out
          obtain ⟨i0, i1, i2, -⟩ := blk3 d1.out
          clear f0 f1 f2
          go_wp2_with fail
          have e0' := (kp _ (Ne.symm ne3)).trans d0.out
          have e1' := (kp _ (Ne.symm ne4)).trans d1.out
          have eh := (kp _ (Ne.symm ne2)).trans dh.out
          have ee3 := (kp _ (Ne.symm ne1)).trans de3.out
          generalize World.setCell _ _ _ = F at bw fw kp e0' e1' eh ee3 ⊢
          have F0 : Hid _ := e0'
          have F1 : Hid _ := e1'
          have FH : Hid _ := eh
          have F3 : Hid _ := ee3
          have FW : Hid _ := fw
          clear kw0 kw1 kw2 kw3 ke0 ke1 h0 h1 h2 g0 g1 g2 i0 i1 i2 e0' e1' eh ee3 fw kp
          obtain ⟨kw0, kw1, -⟩ := blk2 FW.out
          obtain ⟨g0, g1, g2, -⟩ := blk3 F0.out
          obtain ⟨i0, i1, i2, -⟩ := blk3 F1.out
          refine (HNm.out _).mono ?_
          rintro e w20 ⟨rfl, hw20⟩
          have hw21 := hw20.symm
          subst hw21
          go_wp2_with fail
          refine (HWi.out _ _ _ (hrep0.up bw) (hu0.up bw)).mono ?_
          rintro e w21 ⟨x, rfl, hrw, hb21⟩
          obtain ⟨sW, cW, rfl⟩ := slice_shape hrw
          have HRw : Hid (Rep _ _ _ _) := hrw
          have B21 := below_join bw hb21
          have G3 : Hid _ := below_keep hb21 F3.out
          have GH : Hid _ := below_keep hb21 FH.out
          have GW : Hid _ := below_keep hb21 FW.out
          clear kw0 kw1 g0 g1 g2 i0 i1 i2 hrw
          go_wp2_with fail
          refine (HWk.out _ _ (HRw.out.more _)).mono ?_
          rintro e w22 ⟨ul, rfl, hlo, hb22⟩
          obtain ⟨gl, cpl, csl, rfl, -⟩ := hlo
          have hwI : ¬ ((walkL (.mk kP nP ksP) 201).length : Int) ≤ 200 := by have := HW2.out; omega
          have B22 := below_join (below_more B21 _) hb22
          have J3 : Hid _ := below_keep hb22 (alloc_keep G3.out _)
          have JH : Hid _ := below_keep hb22 (alloc_keep GH.out _)
          have JW : Hid _ := below_keep hb22 (alloc_keep GW.out _)
          go_wp2_with fail
          refine (fault_any _ _ _).mono ?_
          rintro e w23 ⟨rfl, hb23⟩
          have B23 := below_join B22 hb23
          have L3 : Hid _ := below_keep hb23 J3.out
          have LH : Hid _ := below_keep hb23 JH.out
          have LW : Hid _ := below_keep hb23 JW.out
          obtain ⟨fw, bw2, -⟩ := flt_set (R := w12.heap.size) (by omega) B23 LW.out 10 0
          obtain ⟨kw0, kw1, kw2, kw3⟩ := blk2 LW.out
          obtain ⟨ke0, ke1, -⟩ := blk2 L3.out
          obtain ⟨h0, h1, h2, -⟩ := blk3 LH.out
          clear fw
          go_wp2_with fail
          generalize World.setCell _ _ _ = F2 at bw2 ⊢
          refine (none_any 0 e0 [] _ _ H18.out.bare).mono ?_
          rintro e w24 ⟨rfl, hb24⟩
          have B20 := below_join bw2 hb24
          go_wp2_with fail
          go_ret
          exact ⟨by simp [e0], B20⟩
  · go_ret
    exact ⟨rfl, B3⟩
  · go_ret
    exact ⟨rfl, B2⟩
end Go.Proofs.Ytknngeojhiejnaa
