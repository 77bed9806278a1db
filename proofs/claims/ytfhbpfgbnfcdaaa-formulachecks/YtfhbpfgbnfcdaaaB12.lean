/- Texts of one proof, one behind the other: Print3, Print4, Ref1. -/
import Derived.Test.YtfhbpfgbnfcdaaaB11
/- Walks: the writer, three. -/
namespace Go.Proofs.Ytfhbpfgbnfcdaaa
open Go.RowKit

theorem WR.drew {B b : Nat} {bs : List Value} {w : World} (h : WR B b bs w) : WR B b bs w.drew := h
theorem blk_new_drew (w : World) (o : Obj) : (w.alloc o).drew.heap[w.heap.size]? = some o := blk_new w o

theorem bare_name (B b : Nat) (bs : List Value) (n : ByteArray) (sl : Option Addr) (len cap : Nat) (w : World) (hw : WR B b bs w) (hB : B ≤ w.heap.size) (hlen : bs.length + n.data.toList.length ≤ 100000) :
    Calls Try.prog 81 #[.pointer (some ⟨b, 0, none⟩), .agg #[.int .i64 1, .string n, .slice sl len cap]] w (WPo B b bs n.data.toList w) := by
  have hsl : n.data.toList.length = n.size := Array.length_toList; (have hsz : bs.length + n.size ≤ 140737488355328 := by omega); have hbl := hw.lt; clear hlen hsl
  go_enter Try.func81, Try.ntmps81
  go_wp2
  go_region_held3 (fun w' => w'.cell? ⟨w.heap.size, 1, none⟩ = some (.string n)) (go_keep)
    (first
     | (go_at_call 82
        (refine (write_string B b bs n _ (hw.alloc _).drew hsz (by show _ ≤ (World.alloc _ _).heap.size; simp; omega)).mono ?_); rintro e w1 ⟨rfl, hw1, hb1, hk1⟩; (have q1 := hk1.block _ _ (blk_new_drew _ _) (by omega) (fun c fr h => by cases h)); have f1 := blk_cell q1 1
        simp at f1)
     | fail)
  go_wp2
  go_end0
  refine ⟨rfl, hw1, ?_, ?_⟩
  · exact ((Below.refl B w).alloc hB _).drew.trans hb1
  · exact ((WK.refl b w).alloc _).drew.trans hk1

set_option maxHeartbeats 1000000 in
theorem bare_leaf2 (B b : Nat) (bs : List Value) (n : ByteArray) (sl : Option Addr) (len cap : Nat) (w : World) (hw : WR B b bs w) (hB : B ≤ w.heap.size) (hlen : bs.length + 1 ≤ 100000) :
    Calls Try.prog 81 #[.pointer (some ⟨b, 0, none⟩), .agg #[.int .i64 2, .string n, .slice sl len cap]] w (WPo B b bs [49] w) := by
  (have hsz : bs.length + (⟨#[49]⟩ : ByteArray).size ≤ 140737488355328 := by have : (⟨#[49]⟩ : ByteArray).size = 1 := rfl; omega)
  go_enter Try.func81, Try.ntmps81
  go_wp2_with (first
    | (go_at_call 82
       (refine (write_string B b bs ⟨#[49]⟩ _ (hw.alloc _) hsz (by simp; omega)).mono ?_)
       rintro e w1 ⟨rfl, hw1, hb1, hk1⟩)
    | fail)
  go_end0
  exact ⟨rfl, hw1, ((Below.refl B w).alloc hB _).trans hb1, ((WK.refl b w).alloc _).trans hk1⟩

set_option maxHeartbeats 1000000 in
theorem bare_leaf3 (B b : Nat) (bs : List Value) (n : ByteArray) (sl : Option Addr) (len cap : Nat) (w : World) (hw : WR B b bs w) (hB : B ≤ w.heap.size) (hlen : bs.length + 1 ≤ 100000) :
    Calls Try.prog 81 #[.pointer (some ⟨b, 0, none⟩), .agg #[.int .i64 3, .string n, .slice sl len cap]] w (WPo B b bs [48] w) := by
  (have hsz : bs.length + (⟨#[48]⟩ : ByteArray).size ≤ 140737488355328 := by have : (⟨#[48]⟩ : ByteArray).size = 1 := rfl; omega)
  go_enter Try.func81, Try.ntmps81
  go_wp2_with (first
    | (go_at_call 82
       (refine (write_string B b bs ⟨#[48]⟩ _ (hw.alloc _) hsz (by simp; omega)).mono ?_)
       rintro e w1 ⟨rfl, hw1, hb1, hk1⟩)
    | fail)
  go_end0
  exact ⟨rfl, hw1, ((Below.refl B w).alloc hB _).trans hb1, ((WK.refl b w).alloc _).trans hk1⟩

set_option maxHeartbeats 1000000 in
theorem bare_pre4 (m : Nat) (ih : Writes m) (B b : Nat) (bs : List Value) (n : ByteArray) (f : Fm) (sl : Option Addr) (cap : Nat) (w : World) (hf : f.size < m) (hfine : Fine f) (hw : WR B b bs w) (hB : B ≤ w.heap.size) (hlen : bs.length + ([126] ++ pr 3 f).length ≤ 100000)
    (hrep : Rep w (· < B) (.mk 4 n [f]) (.agg #[.int .i64 4, .string n, .slice sl 1 cap])) :
    Calls Try.prog 81 #[.pointer (some ⟨b, 0, none⟩), .agg #[.int .i64 4, .string n, .slice sl 1 cap]] w (WPo B b bs ([126] ++ pr 3 f) w) := by
  have HL : Hid (bs.length + ([126] ++ pr 3 f).length ≤ 100000) := hlen; clear hlen
  go_enter Try.func81, Try.ntmps81
  go_wp2_with (first
    | (go_at_call 104
       (refine (prefix_step m ih B b bs 4 n ⟨#[126]⟩ f sl cap _ hf hfine (hw.alloc _) (by simp; omega) HL.out (hrep.low ((Below.refl B w).alloc hB _))).mono ?_)
       rintro e w1 ⟨rfl, hw1, hb1, hk1⟩)
    | fail)
  go_end0
  exact ⟨rfl, hw1, ((Below.refl B w).alloc hB _).trans hb1, ((WK.refl b w).alloc _).trans hk1⟩

set_option maxHeartbeats 1000000 in
theorem bare_pre8 (m : Nat) (ih : Writes m) (B b : Nat) (bs : List Value) (n : ByteArray) (f : Fm) (sl : Option Addr) (cap : Nat) (w : World) (hf : f.size < m) (hfine : Fine f) (hw : WR B b bs w) (hB : B ≤ w.heap.size) (hlen : bs.length + ([91, 93] ++ pr 3 f).length ≤ 100000)
    (hrep : Rep w (· < B) (.mk 8 n [f]) (.agg #[.int .i64 8, .string n, .slice sl 1 cap])) :
    Calls Try.prog 81 #[.pointer (some ⟨b, 0, none⟩), .agg #[.int .i64 8, .string n, .slice sl 1 cap]] w (WPo B b bs ([91, 93] ++ pr 3 f) w) := by
  have HL : Hid (bs.length + ([91, 93] ++ pr 3 f).length ≤ 100000) := hlen; clear hlen
  go_enter Try.func81, Try.ntmps81
  go_wp2_with (first
    | (go_at_call 104
       (refine (prefix_step m ih B b bs 8 n ⟨#[91, 93]⟩ f sl cap _ hf hfine (hw.alloc _) (by simp; omega) HL.out (hrep.low ((Below.refl B w).alloc hB _))).mono ?_)
       rintro e w1 ⟨rfl, hw1, hb1, hk1⟩)
    | fail)
  go_end0
  exact ⟨rfl, hw1, ((Below.refl B w).alloc hB _).trans hb1, ((WK.refl b w).alloc _).trans hk1⟩

set_option maxHeartbeats 1000000 in
theorem bare_pre9 (m : Nat) (ih : Writes m) (B b : Nat) (bs : List Value) (n : ByteArray) (f : Fm) (sl : Option Addr) (cap : Nat) (w : World) (hf : f.size < m) (hfine : Fine f) (hw : WR B b bs w) (hB : B ≤ w.heap.size) (hlen : bs.length + ([60, 62] ++ pr 3 f).length ≤ 100000)
    (hrep : Rep w (· < B) (.mk 9 n [f]) (.agg #[.int .i64 9, .string n, .slice sl 1 cap])) :
    Calls Try.prog 81 #[.pointer (some ⟨b, 0, none⟩), .agg #[.int .i64 9, .string n, .slice sl 1 cap]] w (WPo B b bs ([60, 62] ++ pr 3 f) w) := by
  have HL : Hid (bs.length + ([60, 62] ++ pr 3 f).length ≤ 100000) := hlen; clear hlen
  go_enter Try.func81, Try.ntmps81
  go_wp2_with (first
    | (go_at_call 104
       (refine (prefix_step m ih B b bs 9 n ⟨#[60, 62]⟩ f sl cap _ hf hfine (hw.alloc _) (by simp; omega) HL.out (hrep.low ((Below.refl B w).alloc hB _))).mono ?_)
       rintro e w1 ⟨rfl, hw1, hb1, hk1⟩)
    | fail)
  go_end0
  exact ⟨rfl, hw1, ((Below.refl B w).alloc hB _).trans hb1, ((WK.refl b w).alloc _).trans hk1⟩

set_option maxHeartbeats 1000000 in
theorem bare_in5 (m : Nat) (ih : Writes m) (B b : Nat) (bs : List Value) (n : ByteArray) (f g : Fm) (sl : Option Addr) (cap : Nat) (w : World) (hf : f.size < m) (hg : g.size < m) (hfine : Fine f) (gfine : Fine g) (hw : WR B b bs w) (hB : B ≤ w.heap.size) (hlen : bs.length + (pr 2 f ++ [32, 38, 32] ++ pr 3 g).length ≤ 100000)
    (hrep : Rep w (· < B) (.mk 5 n [f, g]) (.agg #[.int .i64 5, .string n, .slice sl 2 cap])) :
    Calls Try.prog 81 #[.pointer (some ⟨b, 0, none⟩), .agg #[.int .i64 5, .string n, .slice sl 2 cap]] w (WPo B b bs (pr 2 f ++ [32, 38, 32] ++ pr 3 g) w) := by
  have HL : Hid (bs.length + (pr 2 f ++ [32, 38, 32] ++ pr 3 g).length ≤ 100000) := hlen; clear hlen
  go_enter Try.func81, Try.ntmps81
  go_wp2_with (first
    | (go_at_call 105
       (refine (infix_step m ih B b bs 5 2 3 n ⟨#[32, 38, 32]⟩ f g sl cap _ hf hg hfine gfine (hw.alloc _) (by simp; omega) HL.out (hrep.low ((Below.refl B w).alloc hB _))).mono ?_)
       rintro e w1 ⟨rfl, hw1, hb1, hk1⟩)
    | fail)
  go_end0
  exact ⟨rfl, hw1, ((Below.refl B w).alloc hB _).trans hb1, ((WK.refl b w).alloc _).trans hk1⟩

set_option maxHeartbeats 1000000 in
theorem bare_in6 (m : Nat) (ih : Writes m) (B b : Nat) (bs : List Value) (n : ByteArray) (f g : Fm) (sl : Option Addr) (cap : Nat) (w : World) (hf : f.size < m) (hg : g.size < m) (hfine : Fine f) (gfine : Fine g) (hw : WR B b bs w) (hB : B ≤ w.heap.size) (hlen : bs.length + (pr 1 f ++ [32, 124, 32] ++ pr 2 g).length ≤ 100000)
    (hrep : Rep w (· < B) (.mk 6 n [f, g]) (.agg #[.int .i64 6, .string n, .slice sl 2 cap])) :
    Calls Try.prog 81 #[.pointer (some ⟨b, 0, none⟩), .agg #[.int .i64 6, .string n, .slice sl 2 cap]] w (WPo B b bs (pr 1 f ++ [32, 124, 32] ++ pr 2 g) w) := by
  have HL : Hid (bs.length + (pr 1 f ++ [32, 124, 32] ++ pr 2 g).length ≤ 100000) := hlen; clear hlen
  go_enter Try.func81, Try.ntmps81
  go_wp2_with (first
    | (go_at_call 105
       (refine (infix_step m ih B b bs 6 1 2 n ⟨#[32, 124, 32]⟩ f g sl cap _ hf hg hfine gfine (hw.alloc _) (by simp; omega) HL.out (hrep.low ((Below.refl B w).alloc hB _))).mono ?_)
       rintro e w1 ⟨rfl, hw1, hb1, hk1⟩)
    | fail)
  go_end0
  exact ⟨rfl, hw1, ((Below.refl B w).alloc hB _).trans hb1, ((WK.refl b w).alloc _).trans hk1⟩

set_option maxHeartbeats 1000000 in
theorem bare_in7 (m : Nat) (ih : Writes m) (B b : Nat) (bs : List Value) (n : ByteArray) (f g : Fm) (sl : Option Addr) (cap : Nat) (w : World) (hf : f.size < m) (hg : g.size < m) (hfine : Fine f) (gfine : Fine g) (hw : WR B b bs w) (hB : B ≤ w.heap.size) (hlen : bs.length + (pr 1 f ++ [32, 45, 62, 32] ++ pr 0 g).length ≤ 100000)
    (hrep : Rep w (· < B) (.mk 7 n [f, g]) (.agg #[.int .i64 7, .string n, .slice sl 2 cap])) :
    Calls Try.prog 81 #[.pointer (some ⟨b, 0, none⟩), .agg #[.int .i64 7, .string n, .slice sl 2 cap]] w (WPo B b bs (pr 1 f ++ [32, 45, 62, 32] ++ pr 0 g) w) := by
  have HL : Hid (bs.length + (pr 1 f ++ [32, 45, 62, 32] ++ pr 0 g).length ≤ 100000) := hlen; clear hlen
  go_enter Try.func81, Try.ntmps81
  go_wp2_with (first
    | (go_at_call 105
       (refine (infix_step m ih B b bs 7 1 0 n ⟨#[32, 45, 62, 32]⟩ f g sl cap _ hf hg hfine gfine (hw.alloc _) (by simp; omega) HL.out (hrep.low ((Below.refl B w).alloc hB _))).mono ?_)
       rintro e w1 ⟨rfl, hw1, hb1, hk1⟩)
    | fail)
  go_end0
  exact ⟨rfl, hw1, ((Below.refl B w).alloc hB _).trans hb1, ((WK.refl b w).alloc _).trans hk1⟩

theorem slice_shape {w : World} {ok : Nat → Prop} {k : Int} {n : ByteArray} {ks : List Fm} {v : Value} (h : Rep w ok (.mk k n ks) v) : ∃ sl cap, v = .agg #[.int .i64 k, .string n, .slice sl ks.length cap] := by
  obtain ⟨sl, cap, hv, _⟩ := Rep.def.1 h; exact ⟨sl, cap, hv⟩

theorem bare_any (m : Nat) (ih : Writes m) (B b : Nat) (bs : List Value) (f : Fm) (v : Value) (w : World) (hf : f.size < m + 1) (hfine : Fine f) (hw : WR B b bs w) (hB : B ≤ w.heap.size) (hlen : bs.length + (bareS f).length ≤ 100000)
    (hrep : Rep w (· < B) f v) : Calls Try.prog 81 #[.pointer (some ⟨b, 0, none⟩), v] w (WPo B b bs (bareS f) w) := by
  rcases hfine.forms with ⟨n, rfl, hn⟩ | rfl | rfl | ⟨k, g, hk, rfl, hg⟩ | ⟨k, g, g', hk, rfl, hg, hg'⟩
  · obtain ⟨sl, cap, rfl⟩ := slice_shape hrep
    exact bare_name B b bs n sl 0 cap w hw hB hlen
  · obtain ⟨sl, cap, rfl⟩ := slice_shape hrep
    exact bare_leaf2 B b bs _ sl 0 cap w hw hB hlen
  · obtain ⟨sl, cap, rfl⟩ := slice_shape hrep
    exact bare_leaf3 B b bs _ sl 0 cap w hw hB hlen
  · obtain ⟨sl, cap, rfl⟩ := slice_shape hrep
    rw [size_one] at hf
    rcases hk with rfl | rfl | rfl
    · exact bare_pre4 m ih B b bs _ g sl cap w (by omega) hg hw hB hlen hrep
    · exact bare_pre8 m ih B b bs _ g sl cap w (by omega) hg hw hB hlen hrep
    · exact bare_pre9 m ih B b bs _ g sl cap w (by omega) hg hw hB hlen hrep
  · obtain ⟨sl, cap, rfl⟩ := slice_shape hrep
    rw [size_two] at hf
    rcases hk with rfl | rfl | rfl
    · exact bare_in5 m ih B b bs _ g g' sl cap w (by omega) (by omega) hg hg' hw hB hlen hrep
    · exact bare_in6 m ih B b bs _ g g' sl cap w (by omega) (by omega) hg hg' hw hB hlen hrep
    · exact bare_in7 m ih B b bs _ g g' sl cap w (by omega) (by omega) hg hg' hw hB hlen hrep

set_option maxHeartbeats 1000000 in
theorem write_step (m : Nat) (ih : Writes m) : Writes (m + 1) := by
  intro B b bs least f v w hf hfine hw hB hlen hrep; (have hbare := fun bs w => bare_any m ih B b bs f v w hf hfine); have hpr := pr_bare least f; obtain ⟨k, n, ks⟩ := f; obtain ⟨sl, cap, rfl⟩ := slice_shape hrep; have hpr : pr least (.mk k n ks) = brk (decide (least ≤ bindI k)) (bareS (.mk k n ks)) := hpr; rw [hpr] at hlen ⊢; clear hpr; generalize bareS (.mk k n ks) = s at *; have HB : Hid (∀ (bs : List Value) (w : World), WR B b bs w → B ≤ w.heap.size → bs.length + s.length ≤ 100000 → Rep w (· < B) (.mk k n ks) (.agg #[.int .i64 k, .string n, .slice sl ks.length cap]) → Calls Try.prog 81 #[.pointer (some ⟨b, 0, none⟩), .agg #[.int .i64 k, .string n, .slice sl ks.length cap]] w (WPo B b bs s w)) := hbare; clear hbare; have hbl := hw.lt; by_cases hle : least ≤ bindI k
  · have hd : decide (least ≤ bindI k) = true := by simpa using hle
    rw [hd] at hlen ⊢; have HL : Hid (bs.length + s.length ≤ 100000) := hlen; clear hlen; simp only [brk, if_true]
    go_enter Try.func44, Try.ntmps44
    go_wp2_with (first
      | (go_at_call 80; refine (bindOf_any k _).mono ?_; rintro e w1 ⟨rfl, rfl⟩)
      | (go_at_call 81
         (refine (HB.out bs _ (hw.alloc _) (by simp; omega) HL.out (hrep.low ((Below.refl B w).alloc hB _))).mono ?_)
         rintro e w1 ⟨rfl, hw1, hb1, hk1⟩)
      | fail)
    go_end0
    exact ⟨rfl, hw1, ((Below.refl B w).alloc hB _).trans hb1, ((WK.refl b w).alloc _).trans hk1⟩
  · have hd : decide (least ≤ bindI k) = false := by simpa using hle
    rw [hd] at hlen ⊢; have HL : Hid (bs.length + ([40] ++ s ++ [41]).length ≤ 100000) := hlen; clear hlen; simp only [brk, Bool.false_eq_true, if_false]; (have s1 : bs.length + (⟨#[40]⟩ : ByteArray).size ≤ 140737488355328 := by have : (⟨#[40]⟩ : ByteArray).size = 1 := rfl; have := HL.out; omega); (have s2 : (bs ++ Lib.strCells ⟨#[40]⟩).length + s.length ≤ 100000 := by have := HL.out; rw [List.length_append, strCells_eq, Lib.byteCells_length]; simp at this ⊢; omega); (have s3 : (bs ++ Lib.strCells ⟨#[40]⟩ ++ Lib.byteCells s).length + (⟨#[41]⟩ : ByteArray).size ≤ 140737488355328 := by have : (⟨#[41]⟩ : ByteArray).size = 1 := rfl; rw [List.length_append, Lib.byteCells_length]; omega)
    go_enter Try.func44, Try.ntmps44
    go_wp2_with (first
      | (go_at_call 80; refine (bindOf_any k _).mono ?_; rintro e w1 ⟨rfl, rfl⟩)
      | (go_at_call_of 82 (Value.string ⟨#[40]⟩)
         (refine (write_string B b bs ⟨#[40]⟩ _ (hw.alloc _) s1 (by simp; omega)).mono ?_); rintro e w1 ⟨rfl, hw1, hb1, hk1⟩; have z1 := hb1.size; simp at z1; (have q1 := hk1.block _ _ (blk_new _ _) (by omega) (fun c fr h => by cases h))
         obtain ⟨g1, g2, g3, g4, g5, g6⟩ := blk3 q1)
      | (go_at_call 81
         (refine (HB.out _ _ hw1 (by omega) s2 (hrep.low (((Below.refl B w).alloc hB _).trans hb1))).mono ?_); rintro e w2 ⟨rfl, hw2, hb2, hk2⟩
         have z2 := hb2.size)
      | (go_at_call_of 82 (Value.string ⟨#[41]⟩)
         (refine (write_string B b _ ⟨#[41]⟩ _ hw2 s3 (by omega)).mono ?_)
         rintro e w3 ⟨rfl, hw3, hb3, hk3⟩)
      | fail)
    go_end0
    refine ⟨rfl, ?_, (((Below.refl B w).alloc hB _).trans hb1).trans (hb2.trans hb3), ((WK.refl b w).alloc _).trans (hk1.trans (hk2.trans hk3))⟩; rw [strCells_eq, strCells_eq, List.append_assoc, List.append_assoc, ← byteCells_append, ← byteCells_append] at hw3; simpa using hw3

theorem writes_all : ∀ m, Writes m
  | 0 => fun _ _ _ _ _ _ _ h => absurd h (Nat.not_lt_zero _)
  | m + 1 => write_step m (writes_all m)
end Go.Proofs.Ytfhbpfgbnfcdaaa
/- Walks: Print. -/
namespace Go.Proofs.Ytfhbpfgbnfcdaaa
open Go.RowKit

set_option maxHeartbeats 1000000 in
theorem print_bad (f : Fm) (v : Value) (w : World) (hrep : Rep w (fun _ => True) f v) (c : Int) (a : Nat) (hc : chk f 0 = .bad c a) :
    Calls Try.prog 13 #[v] w fun e w' => e = .returned (.tuple #[.string ⟨#[]⟩, .agg #[.int .i64 c, .int .i64 a]]) ∧ Below w.heap.size w w' := by
  (have hck := fun (w : World) h => check_any f v w h); (have hcode : f.code = (c, (a : Int)) := by simp only [Fm.code, hc]); rw [hcode] at hck; have hne := chk_code f 0 c a hc; (have hne' : (c != 0) = true := by simpa using hne); (have hne2 : (c == 0) = false := by simpa using hne); obtain ⟨k, n, ks⟩ := f; obtain ⟨sl, cap, rfl⟩ := slice_shape hrep; (have HC : Hid (∀ w, Rep w (fun _ => True) (.mk k n ks) (.agg #[.int .i64 k, .string n, .slice sl ks.length cap]) → Calls Try.prog 12 #[.agg #[.int .i64 k, .string n, .slice sl ks.length cap]] w fun e w' => e = .returned (.agg #[.int .i64 c, .int .i64 a]) ∧ Below w.heap.size w w') := hck); clear hck hcode hc
  go_enter Try.func13, Try.ntmps13
  go_wp2_with (first
    | (go_at_call 12
       (refine (HC.out _ (hrep.move fun b hb _ => ⟨by rw [Below.heap_alloc _ _ _ (by simp; omega), Below.heap_alloc _ _ _ hb], trivial⟩)).mono ?_); rintro e w1 ⟨rfl, hb1⟩; have z1 := hb1.size; simp at z1
       have q1 : w1.heap[w.heap.size + 1]? = some (.cells #[.int .i64 0, .int .i64 0] 29 (0, 0)) := by
         (rw [hb1.block _ (by simp)]); have := blk_new (w.alloc (.cells #[.int .i64 k, .string n, .slice sl ks.length cap] 24 (0, 0))) (.cells #[.int .i64 0, .int .i64 0] 29 (0, 0)); simpa using this
       obtain ⟨k1, k2, k3, k4⟩ := blk2 q1; (have d1 : ¬ w.heap.size + 1 = w1.heap.size := by omega); (have d2 : ¬ w1.heap.size = w.heap.size + 1 := by omega)
       have d3 : w.heap.size + 1 < w1.heap.size := by omega)
    | fail)
  go_region
  all_goals go_wp2
  have f2 := set2 q1 (.int .i64 c) (.int .i64 a); (have b1 : Below w.heap.size w w1 := ((((Below.refl _ w).alloc (Nat.le_refl _) _).alloc (by simp) _).trans (hb1.mono (by simp; omega)))); (have b2 := (b1.setCell (p := ⟨w.heap.size + 1, 0, none⟩) (by simp) (.int .i64 c)).setCell (p := ⟨w.heap.size + 1, 1, none⟩) (by simp) (.int .i64 a)); (have hsz : ((w1.setCell ⟨w.heap.size + 1, 0, none⟩ (.int .i64 c)).setCell ⟨w.heap.size + 1, 1, none⟩ (.int .i64 a)).heap.size = w1.heap.size := by simp [World.setCell]); generalize World.setCell _ _ _ = F at f2 b2 hsz ⊢; clear k1 k2 k3 k4; obtain ⟨k1, k2, -⟩ := blk2 f2; (have d4 : w.heap.size + 1 < F.heap.size := by omega); (exact bodyPost_ret (v := .tuple #[.string ⟨#[]⟩, .agg #[.int .i64 c, .int .i64 a]]) (by simp [results, Try.results13, go_sem, k1, k2, d4]) rfl ⟨rfl, (b2.alloc (by omega) _).drew⟩)

theorem chk_size {f : Fm} {s : Nat} (h : chk f 0 = .ok s) : f.size ≤ 200 := by have := chk_le f 0 s h (by omega); omega

set_option maxHeartbeats 1000000 in
theorem print_ok (f : Fm) (v : Value) (w : World) (hrep : Rep w (fun _ => True) f v) (s : Nat) (hc : chk f 0 = .ok s) :
    Calls Try.prog 13 #[v] w fun e w' => e = .returned (.tuple #[.string ⟨(pr 0 f).toArray⟩, .agg #[.int .i64 0, .int .i64 0]]) ∧ Below w.heap.size w w' := by
  (have hck := fun (w : World) h => check_any f v w h); (have hcode : f.code = (0, 0) := by simp only [Fm.code, hc]); rw [hcode] at hck; have hfine := fine_of_chk f 0 s hc; have hsz := chk_size hc; have hlen := pr_len 200 f 0 hsz hfine; (have hwr := fun (B b : Nat) (w : World) h1 h2 h3 => writes_all (f.size + 1) B b [] 0 f v w (Nat.lt_succ_self _) hfine h1 h2 (by simp; omega) h3); obtain ⟨k, n, ks⟩ := f; obtain ⟨sl, cap, rfl⟩ := slice_shape hrep; (have HC : Hid (∀ w, Rep w (fun _ => True) (.mk k n ks) (.agg #[.int .i64 k, .string n, .slice sl ks.length cap]) → Calls Try.prog 12 #[.agg #[.int .i64 k, .string n, .slice sl ks.length cap]] w fun e w' => e = .returned (.agg #[.int .i64 0, .int .i64 0]) ∧ Below w.heap.size w w') := hck); have HW : Hid (∀ (B b : Nat) (w : World), WR B b [] w → B ≤ w.heap.size → Rep w (· < B) (.mk k n ks) (.agg #[.int .i64 k, .string n, .slice sl ks.length cap]) → Calls Try.prog 44 #[.pointer (some ⟨b, 0, none⟩), .agg #[.int .i64 k, .string n, .slice sl ks.length cap], .int .i64 0] w (WPo B b [] (pr 0 (.mk k n ks)) w)) := hwr; (have HN : Hid (pr 0 (.mk k n ks) ≠ []) := by intro h; rw [h] at hlen; simp at hlen); clear hck hcode hc hlen hwr hfine hsz; generalize pr 0 (.mk k n ks) = out at *
  go_enter Try.func13, Try.ntmps13
  go_wp2_with (first
    | (go_at_call 12
       (refine (HC.out _ (hrep.move fun b hb _ => ⟨by rw [Below.heap_alloc _ _ _ (by simp; omega), Below.heap_alloc _ _ _ hb], trivial⟩)).mono ?_); rintro e w1 ⟨rfl, hb1⟩; have z1 := hb1.size; simp at z1
       have q1 : w1.heap[w.heap.size + 1]? = some (.cells #[.int .i64 0, .int .i64 0] 29 (0, 0)) := by
         (rw [hb1.block _ (by simp)]); have := blk_new (w.alloc (.cells #[.int .i64 k, .string n, .slice sl ks.length cap] 24 (0, 0))) (.cells #[.int .i64 0, .int .i64 0] 29 (0, 0)); simpa using this
       have q0 : w1.heap[w.heap.size]? = some (.cells #[.int .i64 k, .string n, .slice sl ks.length cap] 24 (0, 0)) := by
         (rw [hb1.block _ (by simp; omega), Below.heap_alloc _ _ _ (by simp)]); exact blk_new _ _
       (have b1 : Below w.heap.size w w1 := ((((Below.refl _ w).alloc (Nat.le_refl _) _).alloc (by simp) _).trans (hb1.mono (by simp; omega)))); obtain ⟨g1, g2, g3, g4, g5, g6⟩ := blk3 q0; (have d0 : w.heap.size < w1.heap.size := by omega)
       have d3 : w.heap.size + 1 < w1.heap.size := by omega)
    | (go_at_call 44
       (refine (HW.out (w1.heap.size + 1) (w1.heap.size + 1) _ ?_ (by simp) ?_).mono ?_)
       · refine Or.inl ⟨Nat.le_refl _, .slice none 0 0, ?_, ⟨rfl, Or.inl ⟨rfl, rfl⟩⟩, by simp [Value.ownBlock]⟩
         have := blk_new (w1.alloc (.cells #[.int .i64 0, .int .i64 0] 29 (0, 0))) (.cells #[.pointer none, .slice none 0 0] 76 (0, 0)); simpa using this
       · exact hrep.move fun b hb _ => ⟨by rw [Below.heap_alloc _ _ _ (by simp; omega), Below.heap_alloc _ _ _ (by omega)]; exact b1.block b hb, by omega⟩
       rintro e w2 ⟨rfl, hw2, hb2, hk2⟩)
    | (go_at_call 45
       refine (string_any (w1.heap.size + 1) (w1.heap.size + 1) out _ hw2 HN.out).mono ?_; rintro e w3 ⟨rfl, hb3⟩
       have q3 : w3.heap[w.heap.size + 1]? = some (.cells #[.int .i64 0, .int .i64 0] 29 (0, 0)) := by
         (rw [hb3.block _ (by omega), hb2.block _ (by omega), Below.heap_alloc _ _ _ (by simp; omega), Below.heap_alloc _ _ _ (by omega)]); exact q1
       obtain ⟨k1, k2, k3, k4⟩ := blk2 q3)
    | fail)
  have z2 := hb2.size; have z3 := hb3.size; simp at z2; have f2 := set2 q3 (.int .i64 0) (.int .i64 0); (have bb : Below w.heap.size w w3 := (((b1.alloc (by omega) _).alloc (by simp; omega) _).trans (hb2.mono (by omega))).trans (hb3.mono (by omega))); (have b2 := (bb.setCell (p := ⟨w.heap.size + 1, 0, none⟩) (by simp) (.int .i64 0)).setCell (p := ⟨w.heap.size + 1, 1, none⟩) (by simp) (.int .i64 0)); generalize World.setCell _ _ _ = F at f2 b2 ⊢; clear k1 k2 k3 k4; obtain ⟨k1, k2, -⟩ := blk2 f2; (exact bodyPost_ret (v := .tuple #[.string ⟨out.toArray⟩, .agg #[.int .i64 0, .int .i64 0]]) (by simp [results, Try.results13, go_sem, k1, k2]) rfl ⟨rfl, b2⟩)
end Go.Proofs.Ytfhbpfgbnfcdaaa
/- Walks: what the laws' own yardstick does with formulas. -/
namespace Go.Proofs.Ytfhbpfgbnfcdaaa
open Go.RowKit

theorem Rep.up {w w' : World} {f : Fm} {v : Value} (h : Rep w (fun _ => True) f v) (hb : Below w.heap.size w w') : Rep w' (fun _ => True) f v :=
  h.move fun b hb1 _ => ⟨hb.block b hb1, trivial⟩
theorem Reps.up {w w' : World} {b off : Nat} {fs : List Fm} (h : Reps w (fun _ => True) b off fs) (hb : Below w.heap.size w w') : Reps w' (fun _ => True) b off fs :=
  h.kept trivial (kept_of_below hb (fun _ h _ => h))

end Go.Proofs.Ytfhbpfgbnfcdaaa
