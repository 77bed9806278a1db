/- Texts of one proof, one behind the other: Parts5, TMath1, Tr1, Tr2. -/
import Derived.Test.YtknngeojhiejnabB06
import Derived.Deep.DeepCutAuto
/- Walks: FormulaParts, its two copies. -/
namespace Go.Proofs.Ytknngeojhiejnab
open Go.RowKit

/-- What lies in memory behind the two copies. -/
def Pw (w : World) (O0 O1 : Obj) (k : Int) (n : ByteArray) (ks : List Fm) (kg : Int) (ng : ByteArray) (ksg : List Fm) (b7 b8 : Nat) (sx : Option Addr) (cx : Nat) (sy : Option Addr) (cy : Nat) (wc : World) : Prop :=
  b7 ≠ b8 ∧ w.heap.size + 2 ≤ b7 ∧ w.heap.size + 2 ≤ b8 ∧ Below w.heap.size w wc ∧ wc.heap[w.heap.size]? = some O0 ∧ wc.heap[w.heap.size + 1]? = some O1 ∧ wc.heap[b7]? = some (.cells #[.int .i64 k, .string n, .slice sx ks.length cx] 37 (0, 0)) ∧ wc.heap[b8]? = some (.cells #[.int .i64 kg, .string ng, .slice sy ksg.length cy] 37 (0, 0)) ∧ Rep wc (fun _ => True) (.mk k n ks) (.agg #[.int .i64 k, .string n, .slice sx ks.length cx]) ∧ Rep wc (fun _ => True) (.mk kg ng ksg) (.agg #[.int .i64 kg, .string ng, .slice sy ksg.length cy])

section
variable {w w6 : World} {O0 O1 : Obj} {k kg : Int} {n ng : ByteArray} {ks ksg : List Fm} {b7 b8 : Nat} {sx sy : Option Addr} {cx cy : Nat}

theorem pw_mk {wF : World} (hne : b7 ≠ b8) (h7 : w.heap.size + 2 ≤ b7) (h8 : w.heap.size + 2 ≤ b8) (hz : w.heap.size + 2 ≤ w6.heap.size) (p0 : w6.heap[w.heap.size]? = some O0) (p1 : w6.heap[w.heap.size + 1]? = some O1)
    (X : Rep w6 (fun b => b ≠ b7 ∧ b ≠ b8) (.mk k n ks) (.agg #[.int .i64 k, .string n, .slice sx ks.length cx])) (Y : Rep w6 (fun b => b ≠ b7 ∧ b ≠ b8) (.mk kg ng ksg) (.agg #[.int .i64 kg, .string ng, .slice sy ksg.length cy]))
    (hF : Below w.heap.size w wF) (hk : ∀ b, b < w6.heap.size → b ≠ b7 → b ≠ b8 → wF.heap[b]? = w6.heap[b]?) (c7 : wF.heap[b7]? = some (.cells #[.int .i64 k, .string n, .slice sx ks.length cx] 37 (0, 0))) (c8 : wF.heap[b8]? = some (.cells #[.int .i64 kg, .string ng, .slice sy ksg.length cy] 37 (0, 0))) :
    Pw w O0 O1 k n ks kg ng ksg b7 b8 sx cx sy cy wF :=
  ⟨hne, h7, h8, hF, (hk _ (by omega) (by omega) (by omega)).trans p0, (hk _ (by omega) (by omega) (by omega)).trans p1, c7, c8, X.move fun b hb hx => ⟨hk b hb hx.1 hx.2, trivial⟩, Y.move fun b hb hx => ⟨hk b hb hx.1 hx.2, trivial⟩⟩

theorem set3_far {b x : Nat} (hb : x ≠ b) (u0 u1 u2 : Value) : (((w6.setCell ⟨b, 0, none⟩ u0).setCell ⟨b, 1, none⟩ u1).setCell ⟨b, 2, none⟩ u2).heap[x]? = w6.heap[x]? := by
  rw [Below.heap_setCell _ _ _ _ (by simpa using hb), Below.heap_setCell _ _ _ _ (by simpa using hb), Below.heap_setCell _ _ _ _ (by simpa using hb)]
theorem set3_below {b : Nat} (hb : w.heap.size ≤ b) (B : Below w.heap.size w w6) (u0 u1 u2 : Value) : Below w.heap.size w (((w6.setCell ⟨b, 0, none⟩ u0).setCell ⟨b, 1, none⟩ u1).setCell ⟨b, 2, none⟩ u2) := ((B.setCell (by simpa using hb) _).setCell (by simpa using hb) _).setCell (by simpa using hb) _
theorem set3_size {b : Nat} (u0 u1 u2 : Value) : (((w6.setCell ⟨b, 0, none⟩ u0).setCell ⟨b, 1, none⟩ u1).setCell ⟨b, 2, none⟩ u2).heap.size = w6.heap.size := by simp [World.setCell]

variable (hz : w.heap.size + 2 ≤ w6.heap.size) (B : Below w.heap.size w w6) (p0 : w6.heap[w.heap.size]? = some O0) (p1 : w6.heap[w.heap.size + 1]? = some O1)

include hz B p0 p1

theorem pw_nn1 (X : Rep w6 (fun b => b ≠ w6.heap.size ∧ b ≠ w6.heap.size + 1) (.mk k n ks) (.agg #[.int .i64 k, .string n, .slice sx ks.length cx])) (Y : Rep w6 (fun b => b ≠ w6.heap.size ∧ b ≠ w6.heap.size + 1) (.mk kg ng ksg) (.agg #[.int .i64 kg, .string ng, .slice sy ksg.length cy])) :
    Pw w O0 O1 k n ks kg ng ksg w6.heap.size (w6.heap.size + 1) sx cx sy cy ((w6.alloc (.cells #[.int .i64 k, .string n, .slice sx ks.length cx] 37 (0, 0))).alloc (.cells #[.int .i64 kg, .string ng, .slice sy ksg.length cy] 37 (0, 0))) :=
  pw_mk (by omega) hz (by omega) hz p0 p1 X Y (below_more (below_more B _) _) (fun b hb _ _ => by rw [Below.heap_alloc _ _ _ (by simp; omega), Below.heap_alloc _ _ _ hb]) (alloc_keep (blk_new _ _) _) (blk_new2 _ _ _)
theorem pw_nn2 (X : Rep w6 (fun b => b ≠ w6.heap.size + 1 ∧ b ≠ w6.heap.size) (.mk k n ks) (.agg #[.int .i64 k, .string n, .slice sx ks.length cx])) (Y : Rep w6 (fun b => b ≠ w6.heap.size + 1 ∧ b ≠ w6.heap.size) (.mk kg ng ksg) (.agg #[.int .i64 kg, .string ng, .slice sy ksg.length cy])) :
    Pw w O0 O1 k n ks kg ng ksg (w6.heap.size + 1) w6.heap.size sx cx sy cy ((w6.alloc (.cells #[.int .i64 kg, .string ng, .slice sy ksg.length cy] 37 (0, 0))).alloc (.cells #[.int .i64 k, .string n, .slice sx ks.length cx] 37 (0, 0))) :=
  pw_mk (by omega) (by omega) hz hz p0 p1 X Y (below_more (below_more B _) _) (fun b hb _ _ => by rw [Below.heap_alloc _ _ _ (by simp; omega), Below.heap_alloc _ _ _ hb]) (blk_new2 _ _ _) (alloc_keep (blk_new _ _) _)
theorem pw_on (h7 : w.heap.size + 2 ≤ b7) (n7 : w6.heap[b7]? = some (.cells #[.int .i64 0, .string ⟨#[]⟩, .slice none 0 0] 37 (0, 0))) (X : Rep w6 (fun b => b ≠ b7 ∧ b ≠ w6.heap.size) (.mk k n ks) (.agg #[.int .i64 k, .string n, .slice sx ks.length cx])) (Y : Rep w6 (fun b => b ≠ b7 ∧ b ≠ w6.heap.size) (.mk kg ng ksg) (.agg #[.int .i64 kg, .string ng, .slice sy ksg.length cy])) :
    Pw w O0 O1 k n ks kg ng ksg b7 w6.heap.size sx cx sy cy ((((w6.setCell ⟨b7, 0, none⟩ (.int .i64 k)).setCell ⟨b7, 1, none⟩ (.string n)).setCell ⟨b7, 2, none⟩ (.slice sx ks.length cx)).alloc (.cells #[.int .i64 kg, .string ng, .slice sy ksg.length cy] 37 (0, 0))) := by
  have z := lt_of_block n7
  refine pw_mk (by omega) h7 (by omega) hz p0 p1 X Y (below_more (set3_below (by omega) B _ _ _) _) (fun b hb h1 h2 => by rw [Below.heap_alloc _ _ _ (by rw [set3_size]; exact hb), set3_far h1]) (alloc_keep (set3 n7 _ _ _) _) ?_
  have := blk_new (((w6.setCell ⟨b7, 0, none⟩ (.int .i64 k)).setCell ⟨b7, 1, none⟩ (.string n)).setCell ⟨b7, 2, none⟩ (.slice sx ks.length cx)) (.cells #[.int .i64 kg, .string ng, .slice sy ksg.length cy] 37 (0, 0))
  rwa [set3_size] at this
theorem pw_no (h8 : w.heap.size + 2 ≤ b8) (n8 : w6.heap[b8]? = some (.cells #[.int .i64 0, .string ⟨#[]⟩, .slice none 0 0] 37 (0, 0))) (X : Rep w6 (fun b => b ≠ w6.heap.size ∧ b ≠ b8) (.mk k n ks) (.agg #[.int .i64 k, .string n, .slice sx ks.length cx])) (Y : Rep w6 (fun b => b ≠ w6.heap.size ∧ b ≠ b8) (.mk kg ng ksg) (.agg #[.int .i64 kg, .string ng, .slice sy ksg.length cy])) :
    Pw w O0 O1 k n ks kg ng ksg w6.heap.size b8 sx cx sy cy ((((w6.setCell ⟨b8, 0, none⟩ (.int .i64 kg)).setCell ⟨b8, 1, none⟩ (.string ng)).setCell ⟨b8, 2, none⟩ (.slice sy ksg.length cy)).alloc (.cells #[.int .i64 k, .string n, .slice sx ks.length cx] 37 (0, 0))) := by
  have z := lt_of_block n8
  refine pw_mk (by omega) (by omega) h8 hz p0 p1 X Y (below_more (set3_below (by omega) B _ _ _) _) (fun b hb h1 h2 => by rw [Below.heap_alloc _ _ _ (by rw [set3_size]; exact hb), set3_far h2]) ?_ (alloc_keep (set3 n8 _ _ _) _)
  have := blk_new (((w6.setCell ⟨b8, 0, none⟩ (.int .i64 kg)).setCell ⟨b8, 1, none⟩ (.string ng)).setCell ⟨b8, 2, none⟩ (.slice sy ksg.length cy)) (.cells #[.int .i64 k, .string n, .slice sx ks.length cx] 37 (0, 0))
  rwa [set3_size] at this
theorem pw_oo (hne : b7 ≠ b8) (h7 : w.heap.size + 2 ≤ b7) (n7 : w6.heap[b7]? = some (.cells #[.int .i64 0, .string ⟨#[]⟩, .slice none 0 0] 37 (0, 0))) (h8 : w.heap.size + 2 ≤ b8) (n8 : w6.heap[b8]? = some (.cells #[.int .i64 0, .string ⟨#[]⟩, .slice none 0 0] 37 (0, 0))) (X : Rep w6 (fun b => b ≠ b7 ∧ b ≠ b8) (.mk k n ks) (.agg #[.int .i64 k, .string n, .slice sx ks.length cx])) (Y : Rep w6 (fun b => b ≠ b7 ∧ b ≠ b8) (.mk kg ng ksg) (.agg #[.int .i64 kg, .string ng, .slice sy ksg.length cy])) :
    Pw w O0 O1 k n ks kg ng ksg b7 b8 sx cx sy cy ((((((w6.setCell ⟨b7, 0, none⟩ (.int .i64 k)).setCell ⟨b7, 1, none⟩ (.string n)).setCell ⟨b7, 2, none⟩ (.slice sx ks.length cx)).setCell ⟨b8, 0, none⟩ (.int .i64 kg)).setCell ⟨b8, 1, none⟩ (.string ng)).setCell ⟨b8, 2, none⟩ (.slice sy ksg.length cy)) := by
  refine pw_mk hne h7 h8 hz p0 p1 X Y (set3_below (by omega) (set3_below (by omega) B _ _ _) _ _ _) (fun b hb h1 h2 => by rw [set3_far h2, set3_far h1]) ?_ ?_
  · rw [set3_far hne]; exact set3 n7 _ _ _
  · refine set3 (x0 := .int .i64 0) (x1 := .string ⟨#[]⟩) (x2 := .slice none 0 0) ?_ _ _ _
    rw [set3_far (Ne.symm hne)]; exact n8
end

/-- A fault is laid into its block. -/
theorem flt_set {w w6 : World} {R : Nat} {x0 x1 : Value} (hR : w.heap.size ≤ R) (B : Below w.heap.size w w6) (q : w6.heap[R]? = some (.cells #[x0, x1] 25 (0, 0))) (c a : Int) :
    ((w6.setCell ⟨R, 0, none⟩ (.int .i64 c)).setCell ⟨R, 1, none⟩ (.int .i64 a)).heap[R]? = some (.cells #[.int .i64 c, .int .i64 a] 25 (0, 0)) ∧ Below w.heap.size w ((w6.setCell ⟨R, 0, none⟩ (.int .i64 c)).setCell ⟨R, 1, none⟩ (.int .i64 a)) ∧ ∀ b, b ≠ R → ((w6.setCell ⟨R, 0, none⟩ (.int .i64 c)).setCell ⟨R, 1, none⟩ (.int .i64 a)).heap[b]? = w6.heap[b]? :=
  ⟨set2 q _ _, (B.setCell (by simpa using hR) _).setCell (by simpa using hR) _, fun b hb => by rw [Below.heap_setCell _ _ _ _ (by simpa using hb), Below.heap_setCell _ _ _ _ (by simpa using hb)]⟩

end Go.Proofs.Ytknngeojhiejnab
/- The plain mathematics of layer 2: where a formula is true; the first node that is a box or a diamond. -/
namespace Go.Proofs.Ytknngeojhiejnab

def val (k : Int) (pn : Bool) (l : List Bool) : Bool :=
  if k = 1 then pn else if k = 4 then !(l.getD 0 false) else if k = 5 then l.getD 0 false && l.getD 1 false else if k = 6 then l.getD 0 false || l.getD 1 false else if k = 7 then !(l.getD 0 false) || l.getD 1 false else decide (k = 2)

mutual
def tv (p : List UInt8 → Bool) : Fm → Bool
  | .mk k n ks => val k (p n.data.toList) (tvs p ks)
def tvs (p : List UInt8 → Bool) : List Fm → List Bool
  | [] => []
  | f :: fs => tv p f :: tvs p fs
end

theorem tv_name (p : List UInt8 → Bool) (n : ByteArray) : tv p (.mk 1 n []) = p n.data.toList := by rw [tv]; rfl
theorem tv_true (p : List UInt8 → Bool) : tv p (.mk 2 ⟨#[]⟩ []) = true := by rw [tv]; rfl
theorem tv_false (p : List UInt8 → Bool) : tv p (.mk 3 ⟨#[]⟩ []) = false := by rw [tv]; rfl
theorem tv_not (p : List UInt8 → Bool) (f : Fm) : tv p (.mk 4 ⟨#[]⟩ [f]) = !tv p f := by rw [tv, tvs, tvs]; rfl
theorem tv_and (p : List UInt8 → Bool) (f g : Fm) : tv p (.mk 5 ⟨#[]⟩ [f, g]) = (tv p f && tv p g) := by rw [tv, tvs, tvs, tvs]; rfl
theorem tv_or (p : List UInt8 → Bool) (f g : Fm) : tv p (.mk 6 ⟨#[]⟩ [f, g]) = (tv p f || tv p g) := by rw [tv, tvs, tvs, tvs]; rfl
theorem tv_then (p : List UInt8 → Bool) (f g : Fm) : tv p (.mk 7 ⟨#[]⟩ [f, g]) = (!tv p f || tv p g) := by rw [tv, tvs, tvs, tvs]; rfl

def isM (k : Int) : Bool := decide (k = 8) || decide (k = 9)

mutual
def modal : Fm → Nat → Nat × Bool
  | .mk k _ ks, a => if isM k then (a, true) else modals ks (a + 1)
def modals : List Fm → Nat → Nat × Bool
  | [], a => (a, false)
  | f :: fs, a => if (modal f a).2 then ((modal f a).1, true) else modals fs (modal f a).1
end

/-- The first of these nodes. -/
def mIdx : List Fm → Nat → Nat × Bool
  | [], a => (a, false)
  | f :: fs, a => if isM f.kind then (a, true) else mIdx fs (a + 1)

theorem mIdx_append : ∀ (l m : List Fm) (a : Nat), mIdx (l ++ m) a = if (mIdx l a).2 then mIdx l a else mIdx m (mIdx l a).1
  | [], m, a => by simp [mIdx]
  | f :: fs, m, a => by
    rw [List.cons_append, mIdx, mIdx]
    split
    · simp
    · exact mIdx_append fs m (a + 1)

mutual
theorem modal_idx : ∀ (f : Fm) (a : Nat), modal f a = mIdx (allN f) a
  | .mk k n ks, a => by
    rw [modal, allN, mIdx, modals_idx ks (a + 1)]
    rfl
theorem modals_idx : ∀ (fs : List Fm) (a : Nat), modals fs a = mIdx (allNs fs) a
  | [], a => by rw [modals, allNs, mIdx]
  | f :: fs, a => by
    rw [modals, allNs, mIdx_append, modal_idx f a, modals_idx fs]
    split
    · rename_i h
      rw [← h]
    · rfl
end

theorem mIdx_le : ∀ (l : List Fm) (a : Nat), a ≤ (mIdx l a).1 ∧ (mIdx l a).1 ≤ a + l.length ∧ ((mIdx l a).2 = false → (mIdx l a).1 = a + l.length)
  | [], a => by simp [mIdx]
  | f :: fs, a => by
    rw [mIdx]
    have := mIdx_le fs (a + 1)
    split
    · simp
    · simp only [List.length_cons]
      exact ⟨by omega, by omega, fun h => by have := this.2.2 h; omega⟩

theorem modal_le (f : Fm) (a : Nat) : a ≤ (modal f a).1 ∧ (modal f a).1 ≤ a + f.size := by
  rw [modal_idx]
  have := mIdx_le (allN f) a
  rw [allN_len] at this
  exact ⟨this.1, this.2.1⟩

/-- No box, no diamond anywhere. -/
def Plain (f : Fm) : Prop := (mIdx (allN f) 0).2 = false

theorem mIdx_no : ∀ (l : List Fm) (a : Nat), (mIdx l a).2 = false ↔ ∀ f ∈ l, isM f.kind = false
  | [], a => by simp [mIdx]
  | f :: fs, a => by
    rw [mIdx]
    split
    · rename_i h; simp [h]
    · rename_i h
      rw [mIdx_no fs (a + 1)]
      simp [h]

theorem plain_iff (f : Fm) : Plain f ↔ ∀ g ∈ allN f, isM g.kind = false := mIdx_no _ _
theorem Plain.kind {k : Int} {n : ByteArray} {ks : List Fm} (h : Plain (.mk k n ks)) : isM k = false := by
  rw [plain_iff] at h
  exact h (.mk k n ks) (by rw [allN]; simp)
theorem allNs_mem {ks : List Fm} {g x : Fm} (h : g ∈ ks) (hx : x ∈ allN g) : x ∈ allNs ks := by
  induction ks with
  | nil => cases h
  | cons k ks ih =>
    rw [allNs, List.mem_append]
    rcases List.mem_cons.1 h with rfl | h
    · exact Or.inl hx
    · exact Or.inr (ih h)
theorem Plain.kid {k : Int} {n : ByteArray} {ks : List Fm} (h : Plain (.mk k n ks)) {g : Fm} (hg : g ∈ ks) : Plain g := by
  rw [plain_iff] at *
  intro x hx
  exact h x (by rw [allN]; exact List.mem_cons_of_mem _ (allNs_mem hg hx))
end Go.Proofs.Ytknngeojhiejnab
/- Walks: firstModal, isTrue. -/
namespace Go.Proofs.Ytknngeojhiejnab
open Go.RowKit

/-! The first box or diamond. -/
def Modals (m : Nat) : Prop := ∀ (f : Fm) (a : Nat) (v : Value) (w : World), f.size < m → Fine f → a + f.size ≤ 1000 → Rep w (fun _ => True) f v →
  Calls Try.prog 64 #[v, .int .i64 a] w fun e w' => e = .returned (.tuple #[.int .i64 ((modal f a).1 : Nat), .bool (modal f a).2]) ∧ Below w.heap.size w w'

theorem modals_drop {ks : List Fm} {i : Nat} {f : Fm} (h : ks[i]? = some f) (a : Nat) : modals (ks.drop i) a = if (modal f a).2 then ((modal f a).1, true) else modals (ks.drop (i + 1)) (modal f a).1 := by
  have hi : i < ks.length := by
    rcases Nat.lt_or_ge i ks.length with h' | h'
    · exact h'
    · rw [List.getElem?_eq_none h'] at h; cases h
  rw [List.drop_eq_getElem_cons hi, modals]
  rw [List.getElem?_eq_getElem hi] at h
  rw [Option.some.inj h]

set_option maxHeartbeats 2000000 in
theorem modal_step (m : Nat) (ih : Modals m) : Modals (m + 1) := by
  intro f a v w hm hfi ha hrep
  obtain ⟨k, n, ks⟩ := f
  obtain ⟨sl, cap, rfl, hx1, hx2, hx3, hx4⟩ := Rep.def.1 hrep
  have HX : Hid (ks ≠ [] → ∃ b off, sl = some ⟨b, off, none⟩ ∧ True ∧ Reps w (fun _ => True) b off ks) := hx4
  have hk2 := hfi.small.2
  have haI : (a : Int) ≤ 1000 := by omega
  have hkI : (ks.length : Int) ≤ 2 := by omega
  have q0 := blk_new w (.cells #[.int .i64 k, .string n, .slice sl ks.length cap] 37 (0, 0))
  have B0 := below_more (Below.refl _ w) (.cells #[.int .i64 k, .string n, .slice sl ks.length cap] 37 (0, 0))
  clear hx4
  by_cases h8 : k = 8
  · subst h8
    have HM : Hid (modal (.mk 8 n ks) a = (a, true)) := by show _ = _; rw [modal]; rfl
    go_enter Try.func64, Try.ntmps64
    go_wp2_with fail
    go_ret2
    exact ⟨by rw [HM.out]; rfl, B0⟩
  by_cases h9 : k = 9
  · subst h9
    have HM : Hid (modal (.mk 9 n ks) a = (a, true)) := by show _ = _; rw [modal]; rfl
    go_enter Try.func64, Try.ntmps64
    go_wp2_with fail
    go_ret2
    exact ⟨by rw [HM.out]; rfl, B0⟩
  have h8' : (k == 8) = false := by simpa using h8
  have h9' : (k == 9) = false := by simpa using h9
  have HM : Hid (modal (.mk k n ks) a = modals ks (a + 1)) := by show _ = _; rw [modal]; simp [isM, h8, h9]
  have HF : Hid (Fine (.mk k n ks)) := hfi
  clear hfi h8 h9
  go_enter Try.func64, Try.ntmps64
  go_wp2_with fail
  go_loopg [22, 4, 5] ks.length (fun g c x y wr => ∃ i na, i ≤ ks.length ∧ g = ks.length - i ∧ c = .int .i64 (i : Nat) ∧ x = .int .i64 (na : Nat) ∧ y = .bool false ∧ Below w.heap.size w wr ∧ Hid (modals ks (a + 1) = modals (ks.drop i) na) ∧ na ≤ a + 1 + Fm.sizes (ks.take i))
  case atStart => exact ⟨0, a + 1, by omega, by omega, rfl, by go_num, rfl, B0, by show _ = _; rfl, by simp [Fm.sizes]⟩
  case round =>
    obtain ⟨i, na, hile, hg, rfl, rfl, rfl, hbr, HW, hna⟩ := hrel
    have HG : Hid (gk = ks.length - i) := hg
    clear hg
    by_cases hlt : i < ks.length
    · obtain ⟨⟨k2, n2, ks2⟩, hki⟩ : ∃ f, ks[i]? = some f := ⟨_, List.getElem?_eq_getElem hlt⟩
      have hltI : (i : Int) < (ks.length : Int) := by omega
      have hlc : (i : Int) < (cap : Int) := by omega
      obtain ⟨b, off, rfl, -, hrs⟩ := HX.out (fun e => by rw [e] at hlt; simp at hlt)
      obtain ⟨sl2, cap2, g0, g1, g2, hrep2⟩ := (hrs.up hbr).at i k2 n2 ks2 hki
      have hst := sizes_take ks i _ hki
      have hsz : (Fm.mk k2 n2 ks2).size < m := by have := sizes_get hki; rw [Fm.size] at hm; omega
      have hst2 : Fm.sizes (ks.take (i + 1)) = Fm.sizes (ks.take i) + (Fm.mk k2 n2 ks2).size := by
        rw [List.take_add_one, hki]
        show Fm.sizes (_ ++ [_]) = _
        generalize ks.take i = l
        induction l with
        | nil => simp [Fm.sizes]
        | cons x l ih => simp only [List.cons_append, Fm.sizes, ih]; omega
      have hca := fun v wx h => ih (.mk k2 n2 ks2) na v wx hsz (HF.out.kid i _ hki) (by rw [Fm.size] at ha; omega) h
      have hml := modal_le (.mk k2 n2 ks2) na
      have hdr := modals_drop hki na
      have HW2 := HW.out
      rw [hdr] at HW2
      rw [Fm.size] at ha
      generalize hmo : modal (.mk k2 n2 ks2) na = mo at *
      obtain ⟨r, bb⟩ := mo
      simp only at hml HW2 hca
      have hrI : (r : Int) ≤ 1000 := by omega
      have HC : Hid (∀ v wx, _ → Calls Try.prog 64 _ wx _) := hca
      clear hmo hca hdr hki hrs HX hrep
      cases bb
      · have HN : Hid (modals ks (a + 1) = modals (ks.drop (i + 1)) r) := HW2
        clear HW2 HW
        go_wp2_with (first
          | (go_at_call 64
             refine (HC.out _ _ (hrep2.more _)).mono ?_
             rintro e w1 ⟨rfl, hb1⟩
             have B1 := below_join (below_more hbr _) hb1)
          | fail)
        go_roundg (ks.length - (i + 1))
        case measure => have := HG.out; omega
        case rel => exact ⟨i + 1, r, by omega, rfl, by go_num, rfl, rfl, B1, HN, by omega⟩
      · have HN : Hid (modals ks (a + 1) = (r, true)) := HW2
        clear HW2 HW
        go_wp2_with (first
          | (go_at_call 64
             refine (HC.out _ _ (hrep2.more _)).mono ?_
             rintro e w1 ⟨rfl, hb1⟩
             have B1 := below_join (below_more hbr _) hb1)
          | fail)
        go_ret2
        exact ⟨by rw [HM.out, HN.out]; rfl, B1⟩
    · have hge : ¬ (i : Int) < (ks.length : Int) := by omega
      have HN : Hid (modals ks (a + 1) = (na, false)) := by
        show _ = _
        rw [HW.out, List.drop_of_length_le (by omega), modals]
      clear HW HX hrep
      go_wp2_with fail
      go_ret2
      exact ⟨by rw [HM.out, HN.out]; rfl, hbr⟩

theorem modals_all : ∀ m, Modals m
  | 0 => fun _ _ _ _ h => absurd h (Nat.not_lt_zero _)
  | m + 1 => modal_step m (modals_all m)

theorem modal_any (f : Fm) (v : Value) (w : World) (hf : Fine f) (hs : f.size ≤ 200) (hrep : Rep w (fun _ => True) f v) :
    Calls Try.prog 64 #[v, .int .i64 0] w fun e w' => e = .returned (.tuple #[.int .i64 ((modal f 0).1 : Nat), .bool (modal f 0).2]) ∧ Below w.heap.size w w' :=
  modals_all (f.size + 1) f 0 v w (Nat.lt_succ_self _) hf (by omega) hrep
end Go.Proofs.Ytknngeojhiejnab
/- Walks: isTrue, whatever is asked of names. -/
namespace Go.Proofs.Ytknngeojhiejnab
open Go.RowKit

/-- What tells of a name whether it is true: it only makes memory. -/
structure Asks (fn : Nat) (cap : Array Value) (p : List UInt8 → Bool) (Ok : World → Prop) : Prop where
  up : ∀ {w w' : World}, Ok w → Below w.heap.size w w' → Ok w'
  ent : ∀ (v : Value) (w : World), (callFunc fn (#[v] ++ cap)).run Try.prog w = .ok (.enter fn (#[v] ++ cap)) w
  call : ∀ (n : ByteArray) (w : World), Ok w → n.size ≤ 8 → Calls Try.prog fn (#[.string n] ++ cap) w fun e w' => e = .returned (.bool (p n.data.toList)) ∧ Below w.heap.size w w'

def Trues (fn : Nat) (cap : Array Value) (p : List UInt8 → Bool) (Ok : World → Prop) (m : Nat) : Prop := ∀ (f : Fm) (v : Value) (w : World), f.size < m → Fine f → Plain f → Rep w (fun _ => True) f v → Ok w →
  Calls Try.prog 52 #[v, .func (.func fn) #[] cap] w fun e w' => e = .returned (.bool (tv p f)) ∧ Below w.heap.size w w'

/-- The kids of a formula with one, and with two. -/
theorem Rep.kid1 {w : World} {k : Int} {n : ByteArray} {g : Fm} {v : Value} (h : Rep w (fun _ => True) (.mk k n [g]) v) : ∃ b off cap, v = .agg #[.int .i64 k, .string n, .slice (some ⟨b, off, none⟩) 1 cap] ∧ 1 ≤ cap ∧ Reps w (fun _ => True) b off [g] := by
  obtain ⟨sl, cap, rfl, h1, h2, h3, h4⟩ := Rep.def.1 h
  obtain ⟨b, off, rfl, -, hr⟩ := h4 (by simp)
  exact ⟨b, off, cap, rfl, h2, hr⟩
theorem Rep.kid2 {w : World} {k : Int} {n : ByteArray} {g g' : Fm} {v : Value} (h : Rep w (fun _ => True) (.mk k n [g, g']) v) : ∃ b off cap, v = .agg #[.int .i64 k, .string n, .slice (some ⟨b, off, none⟩) 2 cap] ∧ 2 ≤ cap ∧ Reps w (fun _ => True) b off [g, g'] := by
  obtain ⟨sl, cap, rfl, h1, h2, h3, h4⟩ := Rep.def.1 h
  obtain ⟨b, off, rfl, -, hr⟩ := h4 (by simp)
  exact ⟨b, off, cap, rfl, h2, hr⟩

set_option maxHeartbeats 4000000 in
theorem true_step {fn : Nat} {cap : Array Value} {p : List UInt8 → Bool} {Ok : World → Prop} (A : Asks fn cap p Ok) (m : Nat) (ih : Trues fn cap p Ok m) : Trues fn cap p Ok (m + 1) := by
  intro f v w hm hfi hpl hrep hok
  have hcf := A.ent
  have HA : Hid (∀ (n : ByteArray) (w : World), Ok w → n.size ≤ 8 → Calls Try.prog fn (#[.string n] ++ cap) w fun e w' => e = .returned (.bool (p n.data.toList)) ∧ Below w.heap.size w w') := A.call
  have HU : Hid (∀ {w w' : World}, Ok w → Below w.heap.size w w' → Ok w') := A.up
  rcases hfi.forms with ⟨n, rfl, hn⟩ | rfl | rfl | ⟨k, g, hk, rfl, hg⟩ | ⟨k, g, g', hk, rfl, hg, hg'⟩
  · obtain ⟨sl, cp, rfl⟩ := slice_shape hrep
    have hsm := hfi.small.1
    have B0 := below_more (Below.refl _ w) (.cells #[.int .i64 1, .string n, .slice sl ([] : List Fm).length cp] 37 (0, 0))
    have HC : Hid (Calls Try.prog fn (#[.string n] ++ cap) (w.alloc (.cells #[.int .i64 1, .string n, .slice sl ([] : List Fm).length cp] 37 (0, 0))) _) := HA.out n _ (HU.out hok B0) hsm
    have HT : Hid (tv p (.mk 1 n []) = p n.data.toList) := tv_name p n
    generalize p n.data.toList = bb at *
    clear hn hfi hpl hrep
    go_enter Try.func52, Try.ntmps52
    go_wp2_with fail
    refine HC.out.mono ?_
    rintro e w1 ⟨rfl, hb1⟩
    have B1 := below_join B0 hb1
    go_wp2_with fail
    go_ret
    exact ⟨by rw [HT.out]; rfl, B1⟩
  · obtain ⟨sl, cp, rfl⟩ := slice_shape hrep
    have B0 := below_more (Below.refl _ w) (.cells #[.int .i64 2, .string ⟨#[]⟩, .slice sl ([] : List Fm).length cp] 37 (0, 0))
    have HT : Hid (tv p (.mk 2 ⟨#[]⟩ []) = true) := tv_true p
    clear hfi hpl hrep
    go_enter Try.func52, Try.ntmps52
    go_wp2_with fail
    go_ret
    exact ⟨by rw [HT.out]; rfl, B0⟩
  · obtain ⟨sl, cp, rfl⟩ := slice_shape hrep
    have B0 := below_more (Below.refl _ w) (.cells #[.int .i64 3, .string ⟨#[]⟩, .slice sl ([] : List Fm).length cp] 37 (0, 0))
    have HT : Hid (tv p (.mk 3 ⟨#[]⟩ []) = false) := tv_false p
    clear hfi hpl hrep
    go_enter Try.func52, Try.ntmps52
    go_wp2_with fail
    go_ret
    exact ⟨by rw [HT.out]; rfl, B0⟩
  · have hkk : k = 4 := by
      have := hpl.kind
      rcases hk with rfl | rfl | rfl
      · rfl
      · cases this
      · cases this
    subst hkk
    have hca := fun v (w : World) h o => ih g v w (by rw [size_one] at hm; omega) hg (hpl.kid (by simp)) h o
    have HT : Hid (tv p (.mk 4 ⟨#[]⟩ [g]) = !tv p g) := tv_not p g
    generalize tv p g = bb at *
    have HC : Hid (∀ v w, Rep w (fun _ => True) g v → Ok w → Calls Try.prog 52 #[v, .func (.func fn) #[] cap] w _) := hca
    obtain ⟨b, off, cp, rfl, hcp, hrs⟩ := hrep.kid1
    have B0 := below_more (Below.refl _ w) (.cells #[.int .i64 4, .string ⟨#[]⟩, .slice (some ⟨b, off, none⟩) 1 cp] 37 (0, 0))
    obtain ⟨k2, n2, ks2⟩ := g
    obtain ⟨sl2, cap2, g0, g1, g2, hrep2⟩ := (hrs.up B0).at 0 k2 n2 ks2 rfl
    simp only [Nat.zero_mul, Nat.add_zero] at g0 g1 g2
    have hcI : (1 : Int) ≤ (cp : Int) := by omega
    have HO : Hid (Ok w) := hok
    clear hfi hpl hrep hrs hca hk hg hok
    go_enter Try.func52, Try.ntmps52
    go_wp2_with (first
      | (go_at_call 52
         refine (HC.out _ _ hrep2 (HU.out HO.out B0)).mono ?_
         rintro e w1 ⟨rfl, hb1⟩
         have B1 := below_join B0 hb1)
      | fail)
    go_ret
    exact ⟨by rw [HT.out]; rfl, B1⟩
  · have hca := fun v (w : World) h o => ih g v w (by rw [size_two] at hm; omega) hg (hpl.kid (by simp)) h o
    have hca' := fun v (w : World) h o => ih g' v w (by rw [size_two] at hm; omega) hg' (hpl.kid (by simp)) h o
    have HT : Hid (tv p (.mk 5 ⟨#[]⟩ [g, g']) = (tv p g && tv p g') ∧ tv p (.mk 6 ⟨#[]⟩ [g, g']) = (tv p g || tv p g') ∧ tv p (.mk 7 ⟨#[]⟩ [g, g']) = (!tv p g || tv p g')) := ⟨tv_and p g g', tv_or p g g', tv_then p g g'⟩
    generalize tv p g = bb at *
    generalize tv p g' = bb' at *
    have HC : Hid (∀ v w, Rep w (fun _ => True) g v → Ok w → Calls Try.prog 52 #[v, .func (.func fn) #[] cap] w _) := hca
    have HC' : Hid (∀ v w, Rep w (fun _ => True) g' v → Ok w → Calls Try.prog 52 #[v, .func (.func fn) #[] cap] w _) := hca'
    obtain ⟨b, off, cp, rfl, hcp, hrs⟩ := hrep.kid2
    have q0 := blk_new w (.cells #[.int .i64 k, .string ⟨#[]⟩, .slice (some ⟨b, off, none⟩) 2 cp] 37 (0, 0))
    have B0 := below_more (Below.refl _ w) (.cells #[.int .i64 k, .string ⟨#[]⟩, .slice (some ⟨b, off, none⟩) 2 cp] 37 (0, 0))
    obtain ⟨k2, n2, ks2⟩ := g
    obtain ⟨sl2, cap2, g0, g1, g2, hrep2⟩ := (hrs.up B0).at 0 k2 n2 ks2 rfl
    obtain ⟨k3, n3, ks3⟩ := g'
    obtain ⟨sl3, cap3, p0, p1, p2, hrep3⟩ := (hrs.up B0).at 1 k3 n3 ks3 rfl
    simp only [Nat.zero_mul, Nat.add_zero] at g0 g1 g2
    simp only [Nat.one_mul] at p0 p1 p2
    have hcI : (2 : Int) ≤ (cp : Int) := by omega
    have HO : Hid (Ok w) := hok
    have hW : ∃ W, W = w.alloc (.cells #[.int .i64 k, .string ⟨#[]⟩, .slice (some ⟨b, off, none⟩) 2 cp] 37 (0, 0)) := ⟨_, rfl⟩
    have zb := lt_of_cell p0
    have HQ : Hid (∀ w1, Below (w.alloc (.cells #[.int .i64 k, .string ⟨#[]⟩, .slice (some ⟨b, off, none⟩) 2 cp] 37 (0, 0))).heap.size (w.alloc (.cells #[.int .i64 k, .string ⟨#[]⟩, .slice (some ⟨b, off, none⟩) 2 cp] 37 (0, 0))) w1 → w1.cell? ⟨w.heap.size, 2, none⟩ = some (.slice (some ⟨b, off, none⟩) 2 cp) ∧ w1.cell? ⟨b, off + 3, none⟩ = some (.int .i64 k3) ∧ w1.cell? ⟨b, off + 3 + 1, none⟩ = some (.string n3) ∧ w1.cell? ⟨b, off + 3 + 2, none⟩ = some (.slice sl3 ks3.length cap3)) := fun w1 hb1 => ⟨by
      have := blk_cell (below_keep hb1 q0) 2
      simpa using this, (hb1.cell (p := ⟨b, off + 3, none⟩) zb).trans p0, (hb1.cell (p := ⟨b, off + 3 + 1, none⟩) zb).trans p1, (hb1.cell (p := ⟨b, off + 3 + 2, none⟩) zb).trans p2⟩
    clear hfi hpl hrep hrs hca hca' hg hg' hok q0 hW zb
    rcases hk with rfl | rfl | rfl
    all_goals
      cases bb
      all_goals
        go_enter Try.func52, Try.ntmps52
        go_wp2_with (first
          | (go_at_call 52
             have hb0 := B1
             refine (HC'.out _ _ (hrep3.up hb1) (HU.out HO.out B1)).mono ?_
             rintro e w2 ⟨rfl, hb2⟩
             have B2 := below_join B1 hb2)
          | (go_at_call 52
             refine (HC.out _ _ hrep2 (HU.out HO.out B0)).mono ?_
             rintro e w1 ⟨rfl, hb1⟩
             have B1 := below_join B0 hb1
             obtain ⟨y0, y1, y2, y3⟩ := HQ.out _ hb1)
          | fail)
        go_ret
        first
        | exact ⟨by first | rw [HT.out.1] | rw [HT.out.2.1] | rw [HT.out.2.2]
                    simp, B2⟩
        | exact ⟨by first | rw [HT.out.1] | rw [HT.out.2.1] | rw [HT.out.2.2]
                    simp, B1⟩

theorem trues_all {fn : Nat} {cap : Array Value} {p : List UInt8 → Bool} {Ok : World → Prop} (A : Asks fn cap p Ok) : ∀ m, Trues fn cap p Ok m
  | 0 => fun _ _ _ h => absurd h (Nat.not_lt_zero _)
  | m + 1 => true_step A m (trues_all A m)

theorem isTrue_any {fn : Nat} {cap : Array Value} {p : List UInt8 → Bool} {Ok : World → Prop} (A : Asks fn cap p Ok) (f : Fm) (v : Value) (w : World) (hf : Fine f) (hp : Plain f) (hrep : Rep w (fun _ => True) f v) (hok : Ok w) :
    Calls Try.prog 52 #[v, .func (.func fn) #[] cap] w fun e w' => e = .returned (.bool (tv p f)) ∧ Below w.heap.size w w' :=
  trues_all A (f.size + 1) f v w (Nat.lt_succ_self _) hf hp hrep hok
end Go.Proofs.Ytknngeojhiejnab
