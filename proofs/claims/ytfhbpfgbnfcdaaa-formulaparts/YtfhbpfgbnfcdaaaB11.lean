/- Texts of one proof, one behind the other: Print1, Print2, Print3. -/
import Derived.Test.YtfhbpfgbnfcdaaaB10
/- Walks: the writer. -/
namespace Go.Proofs.Ytfhbpfgbnfcdaaa
open Go.RowKit

set_option maxHeartbeats 1000000 in
theorem bindOf_any (k : Int) (w : World) :
    Calls Try.prog 80 #[.int .i64 k] w fun e w' => e = .returned (.int .i64 (bindI k)) ∧ w' = w := by
  go_enter Try.func80, Try.ntmps80
  go_wp2
  all_goals
    go_ret; refine ⟨ret_int ?_, rfl⟩; simp only [beq_iff_eq, beq_eq_false_iff_ne, ne_eq] at *
    first
      | (subst_vars; decide)
      | (unfold bindI; rw [if_neg (by omega), if_neg (by omega), if_neg (by omega)])

/-- What a writing of s leaves. -/
def WPo (B b : Nat) (bs : List Value) (s : List UInt8) (w : World) (e : Ending) (w' : World) : Prop :=
  e = .returned (.tuple #[]) ∧ WR B b (bs ++ Lib.byteCells s) w' ∧ Below B w w' ∧ WK b w w'

def Writes (m : Nat) : Prop := ∀ (B b : Nat) (bs : List Value) (least : Int) (f : Fm) (v : Value) (w : World), f.size < m → Fine f → WR B b bs w → B ≤ w.heap.size → bs.length + (pr least f).length ≤ 100000 → Rep w (· < B) f v →
  Calls Try.prog 44 #[.pointer (some ⟨b, 0, none⟩), v, .int .i64 least] w (WPo B b bs (pr least f) w)

theorem WR.alloc {B b : Nat} {bs : List Value} {w : World} (h : WR B b bs w) (o : Obj) : WR B b bs (w.alloc o) := by
  have aux : ∀ p, Lib.BuilderAt 76 5 B b p bs w → Lib.BuilderAt 76 5 B b p bs (w.alloc o) := fun p h => by
    obtain ⟨h1, v, h2, h3, h4⟩ := h; (exact ⟨h1, v, by rw [Below.heap_alloc _ _ _ (lt_of_block h2)]; exact h2, h3.alloc _, h4⟩)
  rcases h with h | h
  · exact Or.inl (aux _ h)
  · exact Or.inr (aux _ h)

theorem Rep.low {w w' : World} {B : Nat} {f : Fm} {v : Value} (h : Rep w (· < B) f v) (hb : Below B w w') : Rep w' (· < B) f v :=
  h.move fun b _ hb2 => ⟨hb.block b hb2, hb2⟩

theorem Reps.low {w w' : World} {B b off : Nat} {fs : List Fm} (h : Reps w (· < B) b off fs) (hb : b < B) (hk : Below B w w') : Reps w' (· < B) b off fs :=
  h.kept hb (kept_of_below hk (fun _ _ h => h))

theorem WR.lt {B b : Nat} {bs : List Value} {w : World} (h : WR B b bs w) : b < w.heap.size := by
  rcases h with h | h
  · exact h.lt
  · exact h.lt

theorem strCells_eq (s : ByteArray) : Lib.strCells s = Lib.byteCells s.data.toList := rfl
theorem byteCells_append (a b : List UInt8) : Lib.byteCells (a ++ b) = Lib.byteCells a ++ Lib.byteCells b := by simp [Lib.byteCells]

set_option maxHeartbeats 1000000 in
theorem prefix_step (m : Nat) (ih : Writes m) (B b : Nat) (bs : List Value) (k : Int) (n s : ByteArray) (f : Fm) (sl : Option Addr) (cap : Nat) (w : World) (hf : f.size < m) (hfine : Fine f) (hw : WR B b bs w) (hB : B ≤ w.heap.size) (hlen : bs.length + (s.data.toList ++ pr 3 f).length ≤ 100000)
    (hrep : Rep w (· < B) (.mk k n [f]) (.agg #[.int .i64 k, .string n, .slice sl 1 cap])) :
    Calls Try.prog 104 #[.pointer (some ⟨b, 0, none⟩), .string s, .agg #[.int .i64 k, .string n, .slice sl 1 cap]] w (WPo B b bs (s.data.toList ++ pr 3 f) w) := by
  obtain ⟨_, _, hv, hx1, hx2, hx3, hx4⟩ := Rep.def.1 hrep; simp only [Value.agg.injEq, Array.mk.injEq, List.cons.injEq, Value.slice.injEq, and_true, true_and] at hv; obtain ⟨rfl, -, rfl⟩ := hv; (obtain ⟨kb, off, rfl, hkb, hrs⟩ := hx4 (by simp)); obtain ⟨k2, n2, ks2⟩ := f; rw [List.length_append] at hlen; (have hsz : bs.length + s.size ≤ 140737488355328 := by have : s.data.toList.length = s.size := Array.length_toList; omega); have HL : Hid (bs.length + (s.data.toList.length + (pr 3 (.mk k2 n2 ks2)).length) ≤ 100000) := hlen; clear hlen hx4
  go_enter Try.func104, Try.ntmps104
  go_wp2_with (first
    | (go_at_call 82
       (refine (write_string B b bs s _ (hw.alloc _) hsz (by simp; omega)).mono ?_); rintro e w1 ⟨rfl, hw1, hb1, hk1⟩; (have q1 := hk1.block _ _ (blk_new _ _) (by have := hw.lt; omega) (fun c fr h => by cases h)); have f2 := blk_cell q1 2; simp at f2; have hb2 : Below B w w1 := ((Below.refl B w).alloc hB _).trans hb1; obtain ⟨sl2, cap2, g0, g1, g2, hrep2⟩ := (hrs.low hkb hb2).at 0 k2 n2 ks2 rfl
       simp at g0 g1 g2)
    | (go_at_call 44
       (refine (ih B b _ 3 _ _ _ hf hfine hw1 (by have := hb1.size; simp at this; omega) (by have := HL.out; rw [List.length_append, strCells_eq, Lib.byteCells_length]; omega) hrep2).mono ?_)
       rintro e w2 ⟨rfl, hw2, hb3, hk2⟩)
    | fail)
  go_end0
  refine ⟨rfl, ?_, hb2.trans hb3, ((WK.refl b w).alloc _).trans (hk1.trans hk2)⟩; rw [strCells_eq, List.append_assoc, ← byteCells_append] at hw2; exact hw2
end Go.Proofs.Ytfhbpfgbnfcdaaa
/- Walks: the writer, two. -/
namespace Go.Proofs.Ytfhbpfgbnfcdaaa
open Go.RowKit

set_option maxHeartbeats 1000000 in
theorem infix_step (m : Nat) (ih : Writes m) (B b : Nat) (bs : List Value) (k lf rt : Int) (n s : ByteArray) (f g : Fm) (sl : Option Addr) (cap : Nat) (w : World) (hf : f.size < m) (hg : g.size < m) (hfine : Fine f) (gfine : Fine g) (hw : WR B b bs w) (hB : B ≤ w.heap.size) (hlen : bs.length + (pr lf f ++ s.data.toList ++ pr rt g).length ≤ 100000)
    (hrep : Rep w (· < B) (.mk k n [f, g]) (.agg #[.int .i64 k, .string n, .slice sl 2 cap])) :
    Calls Try.prog 105 #[.pointer (some ⟨b, 0, none⟩), .agg #[.int .i64 k, .string n, .slice sl 2 cap], .int .i64 lf, .string s, .int .i64 rt] w (WPo B b bs (pr lf f ++ s.data.toList ++ pr rt g) w) := by
  obtain ⟨_, _, hv, hx1, hx2, hx3, hx4⟩ := Rep.def.1 hrep; simp only [Value.agg.injEq, Array.mk.injEq, List.cons.injEq, Value.slice.injEq, and_true, true_and] at hv; obtain ⟨rfl, -, rfl⟩ := hv; (obtain ⟨kb, off, rfl, hkb, hrs⟩ := hx4 (by simp)); obtain ⟨k2, n2, ks2⟩ := f; obtain ⟨k3, n3, ks3⟩ := g; obtain ⟨sl2, cap2, g0, g1, g2, hrep2⟩ := (hrs.low hkb ((Below.refl B w).alloc hB (.cells #[.int .i64 k, .string n, .slice (some ⟨kb, off, none⟩) 2 cap] 24 (0, 0)))).at 0 k2 n2 ks2 rfl; simp at g0 g1 g2; rw [List.length_append, List.length_append] at hlen; have hsl : s.data.toList.length = s.size := Array.length_toList; (have hsz : (bs ++ Lib.byteCells (pr lf (.mk k2 n2 ks2))).length + s.size ≤ 140737488355328 := by rw [List.length_append, Lib.byteCells_length]; omega); have HL : Hid (bs.length + (((pr lf (.mk k2 n2 ks2)).length + s.data.toList.length) + (pr rt (.mk k3 n3 ks3)).length) ≤ 100000) := hlen; (have l1 : bs.length + (pr lf (.mk k2 n2 ks2)).length ≤ 100000 := by omega); have hbl := hw.lt; clear hlen hx4 hsl
  go_enter Try.func105, Try.ntmps105
  go_wp2_with (first
    | (go_at_call_of 44 (Value.agg #[Value.int .i64 k2, Value.string n2, Value.slice sl2 ks2.length cap2])
       (refine (ih B b bs lf _ _ _ hf hfine (hw.alloc _) (by simp; omega) l1 hrep2).mono ?_); rintro e w1 ⟨rfl, hw1, hb1, hk1⟩; have z1 := hb1.size; simp at z1
       have q1 := hk1.block _ _ (blk_new _ _) (by omega) (fun c fr h => by cases h))
    | (go_at_call 82
       (refine (write_string B b _ s _ hw1 hsz (by omega)).mono ?_); rintro e w2 ⟨rfl, hw2, hb2, hk2⟩; have z2 := hb2.size; (have q2 := hk2.block _ _ q1 (by omega) (fun c fr h => by cases h)); have f2 := blk_cell q2 2; simp at f2; obtain ⟨sl3, cap3, g3, g4, g5, hrep3⟩ := (hrs.low hkb ((((Below.refl B w).alloc hB _).trans hb1).trans hb2)).at 1 k3 n3 ks3 rfl
       simp at g3 g4 g5)
    | (go_at_call 44
       (refine (ih B b _ rt _ _ _ hg gfine hw2 (by omega) (by have := HL.out; rw [List.length_append, List.length_append, strCells_eq, Lib.byteCells_length, Lib.byteCells_length]; omega) hrep3).mono ?_)
       rintro e w3 ⟨rfl, hw3, hb3, hk3⟩)
    | fail)
  go_end0
  refine ⟨rfl, ?_, (((Below.refl B w).alloc hB _).trans hb1).trans (hb2.trans hb3), ((WK.refl b w).alloc _).trans (hk1.trans (hk2.trans hk3))⟩; rw [strCells_eq, List.append_assoc, List.append_assoc, ← byteCells_append, ← byteCells_append, ← List.append_assoc (pr lf _)] at hw3; exact hw3
end Go.Proofs.Ytfhbpfgbnfcdaaa
/- Walks: the writer, three. -/
namespace Go.Proofs.Ytfhbpfgbnfcdaaa
open Go.RowKit

theorem WR.drew {B b : Nat} {bs : List Value} {w : World} (h : WR B b bs w) : WR B b bs w.drew := h
theorem blk_new_drew (w : World) (o : Obj) : (w.alloc o).drew.heap[w.heap.size]? = some o := blk_new w o

theorem bare_name (B b : Nat) (bs : List Value) (n : ByteArray) (sl : Option Addr) (len cap : Nat) (w : World) (hw : WR B b bs w) (hB : B ≤ w.heap.size) (hlen : bs.length + n.data.toList.length ≤ 100000) :
    Calls Try.prog 81 #[.pointer (some ⟨b, 0, none⟩), .agg #[.int .i64 1, .string n, .slice sl len cap]] w (WPo B b bs n.data.toList w) := by
  have hsl : n.data.toList.length = n.size := Array.length_toList; (have hsz : bs.length + n.size ≤ 140737488355328 := by omega); have hbl := hw.lt; clear hlen hsl
  go_enter Try.func81, Try.ntmps81
  go_wp2
  go_region_held3 (fun w' => w'.cell? ⟨w.heap.size, 1, none⟩ = some (.string n)) (go_keep)
    (first
     | (go_at_call 82
        (refine (write_string B b bs n _ (hw.alloc _).drew hsz (by show _ ≤ (World.alloc _ _).heap.size; simp; omega)).mono ?_); rintro e w1 ⟨rfl, hw1, hb1, hk1⟩; (have q1 := hk1.block _ _ (blk_new_drew _ _) (by omega) (fun c fr h => by cases h)); have f1 := blk_cell q1 1
        simp at f1)
     | fail)
  go_wp2
  go_end0
  refine ⟨rfl, hw1, ?_, ?_⟩
  · exact ((Below.refl B w).alloc hB _).drew.trans hb1
  · exact ((WK.refl b w).alloc _).drew.trans hk1

set_option maxHeartbeats 1000000 in
theorem bare_leaf2 (B b : Nat) (bs : List Value) (n : ByteArray) (sl : Option Addr) (len cap : Nat) (w : World) (hw : WR B b bs w) (hB : B ≤ w.heap.size) (hlen : bs.length + 1 ≤ 100000) :
    Calls Try.prog 81 #[.pointer (some ⟨b, 0, none⟩), .agg #[.int .i64 2, .string n, .slice sl len cap]] w (WPo B b bs [49] w) := by
  (have hsz : bs.length + (⟨#[49]⟩ : ByteArray).size ≤ 140737488355328 := by have : (⟨#[49]⟩ : ByteArray).size = 1 := rfl; omega)
  go_enter Try.func81, Try.ntmps81
  go_wp2_with (first
    | (go_at_call 82
       (refine (write_string B b bs ⟨#[49]⟩ _ (hw.alloc _) hsz (by simp; omega)).mono ?_)
       rintro e w1 ⟨rfl, hw1, hb1, hk1⟩)
    | fail)
  go_end0
  exact ⟨rfl, hw1, ((Below.refl B w).alloc hB _).trans hb1, ((WK.refl b w).alloc _).trans hk1⟩

set_option maxHeartbeats 1000000 in
theorem bare_leaf3 (B b : Nat) (bs : List Value) (n : ByteArray) (sl : Option Addr) (len cap : Nat) (w : World) (hw : WR B b bs w) (hB : B ≤ w.heap.size) (hlen : bs.length + 1 ≤ 100000) :
    Calls Try.prog 81 #[.pointer (some ⟨b, 0, none⟩), .agg #[.int .i64 3, .string n, .slice sl len cap]] w (WPo B b bs [48] w) := by
  (have hsz : bs.length + (⟨#[48]⟩ : ByteArray).size ≤ 140737488355328 := by have : (⟨#[48]⟩ : ByteArray).size = 1 := rfl; omega)
  go_enter Try.func81, Try.ntmps81
  go_wp2_with (first
    | (go_at_call 82
       (refine (write_string B b bs ⟨#[48]⟩ _ (hw.alloc _) hsz (by simp; omega)).mono ?_)
       rintro e w1 ⟨rfl, hw1, hb1, hk1⟩)
    | fail)
  go_end0
  exact ⟨rfl, hw1, ((Below.refl B w).alloc hB _).trans hb1, ((WK.refl b w).alloc _).trans hk1⟩

set_option maxHeartbeats 1000000 in
theorem bare_pre4 (m : Nat) (ih : Writes m) (B b : Nat) (bs : List Value) (n : ByteArray) (f : Fm) (sl : Option Addr) (cap : Nat) (w : World) (hf : f.size < m) (hfine : Fine f) (hw : WR B b bs w) (hB : B ≤ w.heap.size) (hlen : bs.length + ([126] ++ pr 3 f).length ≤ 100000)
    (hrep : Rep w (· < B) (.mk 4 n [f]) (.agg #[.int .i64 4, .string n, .slice sl 1 cap])) :
    Calls Try.prog 81 #[.pointer (some ⟨b, 0, none⟩), .agg #[.int .i64 4, .string n, .slice sl 1 cap]] w (WPo B b bs ([126] ++ pr 3 f) w) := by
  have HL : Hid (bs.length + ([126] ++ pr 3 f).length ≤ 100000) := hlen; clear hlen
  go_enter Try.func81, Try.ntmps81
  go_wp2_with (first
    | (go_at_call 104
       (refine (prefix_step m ih B b bs 4 n ⟨#[126]⟩ f sl cap _ hf hfine (hw.alloc _) (by simp; omega) HL.out (hrep.low ((Below.refl B w).alloc hB _))).mono ?_)
       rintro e w1 ⟨rfl, hw1, hb1, hk1⟩)
    | fail)
  go_end0
  exact ⟨rfl, hw1, ((Below.refl B w).alloc hB _).trans hb1, ((WK.refl b w).alloc _).trans hk1⟩

set_option maxHeartbeats 1000000 in
theorem bare_pre8 (m : Nat) (ih : Writes m) (B b : Nat) (bs : List Value) (n : ByteArray) (f : Fm) (sl : Option Addr) (cap : Nat) (w : World) (hf : f.size < m) (hfine : Fine f) (hw : WR B b bs w) (hB : B ≤ w.heap.size) (hlen : bs.length + ([91, 93] ++ pr 3 f).length ≤ 100000)
    (hrep : Rep w (· < B) (.mk 8 n [f]) (.agg #[.int .i64 8, .string n, .slice sl 1 cap])) :
    Calls Try.prog 81 #[.pointer (some ⟨b, 0, none⟩), .agg #[.int .i64 8, .string n, .slice sl 1 cap]] w (WPo B b bs ([91, 93] ++ pr 3 f) w) := by
  have HL : Hid (bs.length + ([91, 93] ++ pr 3 f).length ≤ 100000) := hlen; clear hlen
  go_enter Try.func81, Try.ntmps81
  go_wp2_with (first
    | (go_at_call 104
       (refine (prefix_step m ih B b bs 8 n ⟨#[91, 93]⟩ f sl cap _ hf hfine (hw.alloc _) (by simp; omega) HL.out (hrep.low ((Below.refl B w).alloc hB _))).mono ?_)
       rintro e w1 ⟨rfl, hw1, hb1, hk1⟩)
    | fail)
  go_end0
  exact ⟨rfl, hw1, ((Below.refl B w).alloc hB _).trans hb1, ((WK.refl b w).alloc _).trans hk1⟩

set_option maxHeartbeats 1000000 in
theorem bare_pre9 (m : Nat) (ih : Writes m) (B b : Nat) (bs : List Value) (n : ByteArray) (f : Fm) (sl : Option Addr) (cap : Nat) (w : World) (hf : f.size < m) (hfine : Fine f) (hw : WR B b bs w) (hB : B ≤ w.heap.size) (hlen : bs.length + ([60, 62] ++ pr 3 f).length ≤ 100000)
    (hrep : Rep w (· < B) (.mk 9 n [f]) (.agg #[.int .i64 9, .string n, .slice sl 1 cap])) :
    Calls Try.prog 81 #[.pointer (some ⟨b, 0, none⟩), .agg #[.int .i64 9, .string n, .slice sl 1 cap]] w (WPo B b bs ([60, 62] ++ pr 3 f) w) := by
  have HL : Hid (bs.length + ([60, 62] ++ pr 3 f).length ≤ 100000) := hlen; clear hlen
  go_enter Try.func81, Try.ntmps81
  go_wp2_with (first
    | (go_at_call 104
       (refine (prefix_step m ih B b bs 9 n ⟨#[60, 62]⟩ f sl cap _ hf hfine (hw.alloc _) (by simp; omega) HL.out (hrep.low ((Below.refl B w).alloc hB _))).mono ?_)
       rintro e w1 ⟨rfl, hw1, hb1, hk1⟩)
    | fail)
  go_end0
  exact ⟨rfl, hw1, ((Below.refl B w).alloc hB _).trans hb1, ((WK.refl b w).alloc _).trans hk1⟩

set_option maxHeartbeats 1000000 in
theorem bare_in5 (m : Nat) (ih : Writes m) (B b : Nat) (bs : List Value) (n : ByteArray) (f g : Fm) (sl : Option Addr) (cap : Nat) (w : World) (hf : f.size < m) (hg : g.size < m) (hfine : Fine f) (gfine : Fine g) (hw : WR B b bs w) (hB : B ≤ w.heap.size) (hlen : bs.length + (pr 2 f ++ [32, 38, 32] ++ pr 3 g).length ≤ 100000)
    (hrep : Rep w (· < B) (.mk 5 n [f, g]) (.agg #[.int .i64 5, .string n, .slice sl 2 cap])) :
    Calls Try.prog 81 #[.pointer (some ⟨b, 0, none⟩), .agg #[.int .i64 5, .string n, .slice sl 2 cap]] w (WPo B b bs (pr 2 f ++ [32, 38, 32] ++ pr 3 g) w) := by
  have HL : Hid (bs.length + (pr 2 f ++ [32, 38, 32] ++ pr 3 g).length ≤ 100000) := hlen; clear hlen
  go_enter Try.func81, Try.ntmps81
  go_wp2_with (first
    | (go_at_call 105
       (refine (infix_step m ih B b bs 5 2 3 n ⟨#[32, 38, 32]⟩ f g sl cap _ hf hg hfine gfine (hw.alloc _) (by simp; omega) HL.out (hrep.low ((Below.refl B w).alloc hB _))).mono ?_)
       rintro e w1 ⟨rfl, hw1, hb1, hk1⟩)
    | fail)
  go_end0
  exact ⟨rfl, hw1, ((Below.refl B w).alloc hB _).trans hb1, ((WK.refl b w).alloc _).trans hk1⟩

set_option maxHeartbeats 1000000 in
theorem bare_in6 (m : Nat) (ih : Writes m) (B b : Nat) (bs : List Value) (n : ByteArray) (f g : Fm) (sl : Option Addr) (cap : Nat) (w : World) (hf : f.size < m) (hg : g.size < m) (hfine : Fine f) (gfine : Fine g) (hw : WR B b bs w) (hB : B ≤ w.heap.size) (hlen : bs.length + (pr 1 f ++ [32, 124, 32] ++ pr 2 g).length ≤ 100000)
    (hrep : Rep w (· < B) (.mk 6 n [f, g]) (.agg #[.int .i64 6, .string n, .slice sl 2 cap])) :
    Calls Try.prog 81 #[.pointer (some ⟨b, 0, none⟩), .agg #[.int .i64 6, .string n, .slice sl 2 cap]] w (WPo B b bs (pr 1 f ++ [32, 124, 32] ++ pr 2 g) w) := by
  have HL : Hid (bs.length + (pr 1 f ++ [32, 124, 32] ++ pr 2 g).length ≤ 100000) := hlen; clear hlen
  go_enter Try.func81, Try.ntmps81
  go_wp2_with (first
    | (go_at_call 105
       (refine (infix_step m ih B b bs 6 1 2 n ⟨#[32, 124, 32]⟩ f g sl cap _ hf hg hfine gfine (hw.alloc _) (by simp; omega) HL.out (hrep.low ((Below.refl B w).alloc hB _))).mono ?_)
       rintro e w1 ⟨rfl, hw1, hb1, hk1⟩)
    | fail)
  go_end0
  exact ⟨rfl, hw1, ((Below.refl B w).alloc hB _).trans hb1, ((WK.refl b w).alloc _).trans hk1⟩

set_option maxHeartbeats 1000000 in
theorem bare_in7 (m : Nat) (ih : Writes m) (B b : Nat) (bs : List Value) (n : ByteArray) (f g : Fm) (sl : Option Addr) (cap : Nat) (w : World) (hf : f.size < m) (hg : g.size < m) (hfine : Fine f) (gfine : Fine g) (hw : WR B b bs w) (hB : B ≤ w.heap.size) (hlen : bs.length + (pr 1 f ++ [32, 45, 62, 32] ++ pr 0 g).length ≤ 100000)
    (hrep : Rep w (· < B) (.mk 7 n [f, g]) (.agg #[.int .i64 7, .string n, .slice sl 2 cap])) :
    Calls Try.prog 81 #[.pointer (some ⟨b, 0, none⟩), .agg #[.int .i64 7, .string n, .slice sl 2 cap]] w (WPo B b bs (pr 1 f ++ [32, 45, 62, 32] ++ pr 0 g) w) := by
  have HL : Hid (bs.length + (pr 1 f ++ [32, 45, 62, 32] ++ pr 0 g).length ≤ 100000) := hlen; clear hlen
  go_enter Try.func81, Try.ntmps81
  go_wp2_with (first
    | (go_at_call 105
       (refine (infix_step m ih B b bs 7 1 0 n ⟨#[32, 45, 62, 32]⟩ f g sl cap _ hf hg hfine gfine (hw.alloc _) (by simp; omega) HL.out (hrep.low ((Below.refl B w).alloc hB _))).mono ?_)
       rintro e w1 ⟨rfl, hw1, hb1, hk1⟩)
    | fail)
  go_end0
  exact ⟨rfl, hw1, ((Below.refl B w).alloc hB _).trans hb1, ((WK.refl b w).alloc _).trans hk1⟩

theorem slice_shape {w : World} {ok : Nat → Prop} {k : Int} {n : ByteArray} {ks : List Fm} {v : Value} (h : Rep w ok (.mk k n ks) v) : ∃ sl cap, v = .agg #[.int .i64 k, .string n, .slice sl ks.length cap] := by
  obtain ⟨sl, cap, hv, _⟩ := Rep.def.1 h; exact ⟨sl, cap, hv⟩

theorem bare_any (m : Nat) (ih : Writes m) (B b : Nat) (bs : List Value) (f : Fm) (v : Value) (w : World) (hf : f.size < m + 1) (hfine : Fine f) (hw : WR B b bs w) (hB : B ≤ w.heap.size) (hlen : bs.length + (bareS f).length ≤ 100000)
    (hrep : Rep w (· < B) f v) : Calls Try.prog 81 #[.pointer (some ⟨b, 0, none⟩), v] w (WPo B b bs (bareS f) w) := by
  rcases hfine.forms with ⟨n, rfl, hn⟩ | rfl | rfl | ⟨k, g, hk, rfl, hg⟩ | ⟨k, g, g', hk, rfl, hg, hg'⟩
  · obtain ⟨sl, cap, rfl⟩ := slice_shape hrep
    exact bare_name B b bs n sl 0 cap w hw hB hlen
  · obtain ⟨sl, cap, rfl⟩ := slice_shape hrep
    exact bare_leaf2 B b bs _ sl 0 cap w hw hB hlen
  · obtain ⟨sl, cap, rfl⟩ := slice_shape hrep
    exact bare_leaf3 B b bs _ sl 0 cap w hw hB hlen
  · obtain ⟨sl, cap, rfl⟩ := slice_shape hrep
    rw [size_one] at hf
    rcases hk with rfl | rfl | rfl
    · exact bare_pre4 m ih B b bs _ g sl cap w (by omega) hg hw hB hlen hrep
    · exact bare_pre8 m ih B b bs _ g sl cap w (by omega) hg hw hB hlen hrep
    · exact bare_pre9 m ih B b bs _ g sl cap w (by omega) hg hw hB hlen hrep
  · obtain ⟨sl, cap, rfl⟩ := slice_shape hrep
    rw [size_two] at hf
    rcases hk with rfl | rfl | rfl
    · exact bare_in5 m ih B b bs _ g g' sl cap w (by omega) (by omega) hg hg' hw hB hlen hrep
    · exact bare_in6 m ih B b bs _ g g' sl cap w (by omega) (by omega) hg hg' hw hB hlen hrep
    · exact bare_in7 m ih B b bs _ g g' sl cap w (by omega) (by omega) hg hg' hw hB hlen hrep

set_option maxHeartbeats 1000000 in
theorem write_step (m : Nat) (ih : Writes m) : Writes (m + 1) := by
  intro B b bs least f v w hf hfine hw hB hlen hrep; (have hbare := fun bs w => bare_any m ih B b bs f v w hf hfine); have hpr := pr_bare least f; obtain ⟨k, n, ks⟩ := f; obtain ⟨sl, cap, rfl⟩ := slice_shape hrep; have hpr : pr least (.mk k n ks) = brk (decide (least ≤ bindI k)) (bareS (.mk k n ks)) := hpr; rw [hpr] at hlen ⊢; clear hpr; generalize bareS (.mk k n ks) = s at *; have HB : Hid (∀ (bs : List Value) (w : World), WR B b bs w → B ≤ w.heap.size → bs.length + s.length ≤ 100000 → Rep w (· < B) (.mk k n ks) (.agg #[.int .i64 k, .string n, .slice sl ks.length cap]) → Calls Try.prog 81 #[.pointer (some ⟨b, 0, none⟩), .agg #[.int .i64 k, .string n, .slice sl ks.length cap]] w (WPo B b bs s w)) := hbare; clear hbare; have hbl := hw.lt; by_cases hle : least ≤ bindI k
  · have hd : decide (least ≤ bindI k) = true := by simpa using hle
    rw [hd] at hlen ⊢; have HL : Hid (bs.length + s.length ≤ 100000) := hlen; clear hlen; simp only [brk, if_true]
    go_enter Try.func44, Try.ntmps44
    go_wp2_with (first
      | (go_at_call 80; refine (bindOf_any k _).mono ?_; rintro e w1 ⟨rfl, rfl⟩)
      | (go_at_call 81
         (refine (HB.out bs _ (hw.alloc _) (by simp; omega) HL.out (hrep.low ((Below.refl B w).alloc hB _))).mono ?_)
         rintro e w1 ⟨rfl, hw1, hb1, hk1⟩)
      | fail)
    go_end0
    exact ⟨rfl, hw1, ((Below.refl B w).alloc hB _).trans hb1, ((WK.refl b w).alloc _).trans hk1⟩
  · have hd : decide (least ≤ bindI k) = false := by simpa using hle
    rw [hd] at hlen ⊢; have HL : Hid (bs.length + ([40] ++ s ++ [41]).length ≤ 100000) := hlen; clear hlen; simp only [brk, Bool.false_eq_true, if_false]; (have s1 : bs.length + (⟨#[40]⟩ : ByteArray).size ≤ 140737488355328 := by have : (⟨#[40]⟩ : ByteArray).size = 1 := rfl; have := HL.out; omega); (have s2 : (bs ++ Lib.strCells ⟨#[40]⟩).length + s.length ≤ 100000 := by have := HL.out; rw [List.length_append, strCells_eq, Lib.byteCells_length]; simp at this ⊢; omega); (have s3 : (bs ++ Lib.strCells ⟨#[40]⟩ ++ Lib.byteCells s).length + (⟨#[41]⟩ : ByteArray).size ≤ 140737488355328 := by have : (⟨#[41]⟩ : ByteArray).size = 1 := rfl; rw [List.length_append, Lib.byteCells_length]; omega)
    go_enter Try.func44, Try.ntmps44
    go_wp2_with (first
      | (go_at_call 80; refine (bindOf_any k _).mono ?_; rintro e w1 ⟨rfl, rfl⟩)
      | (go_at_call_of 82 (Value.string ⟨#[40]⟩)
         (refine (write_string B b bs ⟨#[40]⟩ _ (hw.alloc _) s1 (by simp; omega)).mono ?_); rintro e w1 ⟨rfl, hw1, hb1, hk1⟩; have z1 := hb1.size; simp at z1; (have q1 := hk1.block _ _ (blk_new _ _) (by omega) (fun c fr h => by cases h))
         obtain ⟨g1, g2, g3, g4, g5, g6⟩ := blk3 q1)
      | (go_at_call 81
         (refine (HB.out _ _ hw1 (by omega) s2 (hrep.low (((Below.refl B w).alloc hB _).trans hb1))).mono ?_); rintro e w2 ⟨rfl, hw2, hb2, hk2⟩
         have z2 := hb2.size)
      | (go_at_call_of 82 (Value.string ⟨#[41]⟩)
         (refine (write_string B b _ ⟨#[41]⟩ _ hw2 s3 (by omega)).mono ?_)
         rintro e w3 ⟨rfl, hw3, hb3, hk3⟩)
      | fail)
    go_end0
    refine ⟨rfl, ?_, (((Below.refl B w).alloc hB _).trans hb1).trans (hb2.trans hb3), ((WK.refl b w).alloc _).trans (hk1.trans (hk2.trans hk3))⟩; rw [strCells_eq, strCells_eq, List.append_assoc, List.append_assoc, ← byteCells_append, ← byteCells_append] at hw3; simpa using hw3

theorem writes_all : ∀ m, Writes m
  | 0 => fun _ _ _ _ _ _ _ h => absurd h (Nat.not_lt_zero _)
  | m + 1 => write_step m (writes_all m)
end Go.Proofs.Ytfhbpfgbnfcdaaa
